package infer_test

import (
	"errors"
	"maps"
	"slices"
	"strings"
	"sync"
	"testing"

	"schemes/api"
	"schemes/infer"
)

// manyRounds: expressions with rounds, that end well and that do not.
func manyRounds() []string {
	return []string{
		"let rec f = 1 in f", "let rec x = x in x", "let rec f = fun x -> f in f", "let rec f = 1 in f 2", "let rec f = g and g = h and h = 1 in (f, g)",
		"fun z -> let rec f = z and g = fun x -> f in (f, g)", "let rec f = let rec g = 1 in g in f", "let rec f = add g 1 and g = fun x -> f in f",
		"let rec f = 1 and g = let rec h = f in h in (g, let rec k = 1 in k)", "let rec f = fun x -> (f 1, f true) in f", "fun y -> let rec f = y and g = h y and h = add 1 in f",
	}
}

func TestP6WatchDoesAsInfer(t *testing.T) {
	for fuel := -1; fuel <= api.MaxFuel+1; fuel++ {
		for _, src := range append(manyRounds(), "fun x -> x", "1 1", "y", "(", "let i = fun x -> x in (i 1, i true)", "let rec f = y in f") {
			want, errInfer := infer.Infer(src, usual(), fuel)
			if got, _, err := watched(src, usual(), fuel, 0); got != want || told(err) != told(errInfer) {
				t.Errorf("Watch(%q, .., %d) = %q, %v, but Infer: %q, %v", src, fuel, got, err, want, errInfer)
			}
			if got, err := infer.Watch(src, usual(), fuel, nil); got != want || told(err) != told(errInfer) {
				t.Errorf("Watch(%q, .., %d, nil) = %q, %v, but Infer: %q, %v", src, fuel, got, err, want, errInfer)
			}
		}
	}
}

func TestP6NobodyWatches(t *testing.T) {
	if got, err := infer.Watch("let rec f = 1 in f", nil, 2, nil); got != "int" || err != nil {
		t.Errorf("%q, %v", got, err)
	}
	if got, err := infer.Watch("let rec f = 1 in f", nil, 1, nil); got != "" || !errors.Is(err, api.ErrFuel) {
		t.Errorf("%q, %v", got, err)
	}
}

func TestP6NobodyIsToldWithoutRounds(t *testing.T) {
	for _, src := range []string{"1", "fun x -> x", "let f = fun x -> x in f", "1 1", "x", "let rec f = 1 1 in f", "(1 1, let rec f = 1 in f)", "fun x -> x x (let rec f = 1 in f)"} {
		_, rounds, err := watched(src, nil, 3, 1)
		_, errInfer := infer.Infer(src, nil, 3)
		if len(rounds) > 0 || told(err) != told(errInfer) {
			t.Errorf("Watch(%q): %v with %q", src, err, rounds)
		}
	}
}

func TestP6NamesInTheirOrder(t *testing.T) {
	goes(t, 2, "let rec g = 1 and z = true and a = nil and f = 2 in 1", "int", "g z a f 1: int; bool; [a]; int", "g z a f 2: int; bool; [a]; int")
	goes(t, 2, "let rec abcdefgh = 1 and a1 = true in 1", "int", "abcdefgh a1 1: int; bool", "abcdefgh a1 2: int; bool")
}

func TestP6VariablesThatStandForAnyType(t *testing.T) {
	goes(t, 2, "let rec f = fun x -> x and g = fun y -> fun z -> z and h = nil in 1", "int", "f g h 1: a -> a; a -> b -> b; [a]", "f g h 2: a -> a; a -> b -> b; [a]")
	goes(t, 2, "let rec f = (snd, fst) in 1", "int", "f 1: ((a, b) -> b, (c, d) -> c)", "f 2: ((a, b) -> b, (c, d) -> c)")
	wide := ""
	for k := range 30 {
		wide += standing(k) + " -> "
	}
	env := given("w", wide+"int")
	goesIn(t, env, 2, "let rec f = w and g = fun x -> x in 1", "int", "f g 1: "+wide+"int; a -> a", "f g 2: "+wide+"int; a -> a")
}

func TestP6VariablesThatStandForThemselves(t *testing.T) {
	goes(t, 2, "fun y -> fun z -> let rec f = fun x -> z and g = (y, z) in 1", "a -> b -> int", "f g 1: a -> _a; (_b, _a)", "f g 2: a -> _a; (_b, _a)")
	goes(t, 2, "fun y -> fun z -> let rec f = 1 and g = (z, fun x -> (x, y)) and h = fun x -> y in 1", "a -> b -> int", "f g h 1: int; (_a, a -> (a, _b)); a -> _b", "f g h 2: int; (_a, a -> (a, _b)); a -> _b")
	goes(t, 2, "fun y -> fun z -> let rec f = (y z, y) in f", "(a -> b) -> a -> (b, a -> b)", "f 1: (_a, _b -> _a)", "f 2: (_a, _b -> _a)")
	// They are named anew in each round, and for each group.
	goes(t, 3, "fun y -> fun z -> let rec f = g and g = (z, y) in 1", "a -> b -> int", "f g 1: a; (_a, _b)", "f g 2: (_a, _b); (_a, _b)", "f g 3: (_a, _b); (_a, _b)")
	goes(t, 2, "fun y -> fun z -> (let rec f = y in 1, let rec f = z in 1)", "a -> b -> (int, int)", "f 1: _a", "f 2: _a", "f 1: _a", "f 2: _a")
	goes(t, 2, "fun y -> let rec f = fun z -> let rec g = (z, y) in 1 in f", "a -> b -> int", "g 1: (_a, _b)", "g 2: (_a, _b)", "f 1: a -> int", "g 1: (_a, _b)", "g 2: (_a, _b)", "f 2: a -> int")
	wide, told := "", ""
	for k := range 30 {
		wide += "(" + standing(k) + ","
		told += "(_" + standing(k) + ", "
	}
	wide, told = wide+"int"+strings.Repeat(")", 30), told+"int"+strings.Repeat(")", 30)
	env := given("k", wide+" -> int", "b", "a -> [b]")
	breaksOffIn(t, env, 2, "fun y -> let rec f = k y and g = y and h = b in g 1", api.ErrType, "f g h 1: int; "+told+"; a -> [b]", "f g h 2: int; "+told+"; a -> [b]")
}

func TestP6TheWatcherIsCalledBehindEachRound(t *testing.T) {
	// Also behind the last that may be, and not behind one that an error ends.
	breaksOff(t, 1, "let rec f = 1 in f", api.ErrFuel, "f 1: int")
	breaksOff(t, 3, "let rec f = fun x -> f in f", api.ErrFuel, neverEnding("f", 3)...)
	breaksOff(t, 3, "let rec f = 1 and g = (f, 1 1) in f", api.ErrType)
	breaksOff(t, 3, "let rec f = let rec g = 1 in g and h = 1 1 in f", api.ErrType, "g 1: int", "g 2: int")
	breaksOff(t, 3, "let rec f = 1 and h = f 1 in f", api.ErrType, "f h 1: int; a")
	breaksOff(t, 2, "let rec f = let rec g = h and h = 1 in g in f", api.ErrFuel, "g h 1: a; int", "g h 2: int; int")
	// The inner rounds come ahead of the outer one, in the order of the bodies.
	goes(t, 2, "let rec f = let rec x = 1 in 1 and g = let rec y = 1 in 1 in let rec z = 1 in 1", "int",
		"x 1: int", "x 2: int", "y 1: int", "y 2: int", "f g 1: int; int", "x 1: int", "x 2: int", "y 1: int", "y 2: int", "f g 2: int; int", "z 1: int", "z 2: int")
}

func TestP6Stopped(t *testing.T) {
	for _, src := range manyRounds() {
		for fuel := 1; fuel <= api.MaxFuel; fuel += 3 {
			want, all, errAll := watched(src, usual(), fuel, 0)
			for stop := 1; stop <= len(all); stop++ {
				got, rounds, err := watched(src, usual(), fuel, stop)
				if got != "" || !errors.Is(err, api.ErrStopped) || !slices.Equal(rounds, all[:stop]) {
					t.Errorf("Watch(%q, .., %d), stopped at %d of %d: %q, %v with %q", src, fuel, stop, len(all), got, err, rounds)
				}
			}
			got, rounds, err := watched(src, usual(), fuel, len(all)+1)
			if got != want || told(err) != told(errAll) || !slices.Equal(rounds, all) {
				t.Errorf("Watch(%q, .., %d), not stopped: %q, %v with %q", src, fuel, got, err, rounds)
			}
		}
	}
}

func TestP6StoppedAheadOfAllElse(t *testing.T) {
	for _, c := range []struct {
		src        string
		fuel, stop int
	}{
		{"let rec f = 1 in 1 1", 2, 2}, {"let rec f = 1 in f", 1, 1}, {"let rec f = fun x -> f in f", 12, 12}, {"let rec f = f in f", 1, 1}, {"let rec f = add g 1 and g = fun x -> f in f", 2, 1},
	} {
		calls := 0
		got, err := infer.Watch(c.src, usual(), c.fuel, func([]string, int, []string) bool {
			calls++
			return calls < c.stop
		})
		if got != "" || !errors.Is(err, api.ErrStopped) || calls != c.stop {
			t.Errorf("Watch(%q, .., %d) = %q, %v behind %d rounds", c.src, c.fuel, got, err, calls)
		}
	}
}

func TestP1WatchersThatCallTheProgram(t *testing.T) {
	for _, src := range manyRounds() {
		want, all, errAll := watched(src, usual(), 5, 0)
		env := usual()
		var rounds []string
		var watch func(depth int) func([]string, int, []string) bool
		watch = func(depth int) func([]string, int, []string) bool {
			return func(names []string, round int, schemes []string) bool {
				if depth == 0 {
					rounds = append(rounds, roundText(names, round, schemes))
				}
				if depth < 2 {
					typ, err := infer.Watch(src, env, 5, watch(depth+1))
					if typ != want || told(err) != told(errAll) {
						t.Errorf("within Watch(%q): %q, %v, want %q, %v", src, typ, err, want, errAll)
					}
				}
				typedIn(t, env, "let rec g = fun y -> g (cons y nil) in g", "a -> b")
				untypedIn(t, env, "fun x -> x x", api.ErrType)
				canon(t, "(q->p)->[q]", "(a -> b) -> [a]")
				return true
			}
		}
		got, err := infer.Watch(src, env, 5, watch(0))
		if got != want || told(err) != told(errAll) || !slices.Equal(rounds, all) || !maps.Equal(env, usual()) {
			t.Errorf("Watch(%q) = %q, %v with %q, want %q, %v with %q", src, got, err, rounds, want, errAll, all)
		}
	}
}

func TestP1AWatcherThatIsStoppedWithin(t *testing.T) {
	// That an inner call is stopped, or fails, is nothing to the outer one.
	src := "let rec f = g and g = 1 in f"
	rounds := 0
	got, err := infer.Watch(src, nil, 3, func([]string, int, []string) bool {
		rounds++
		if typ, _, err := watched(src, nil, 3, rounds); typ != "" || !errors.Is(err, api.ErrStopped) {
			t.Errorf("within: %q, %v", typ, err)
		}
		untypedIn(t, nil, "1 1", api.ErrType)
		return true
	})
	if got != "int" || err != nil || rounds != 3 {
		t.Errorf("Watch(%q) = %q, %v behind %d rounds", src, got, err, rounds)
	}
}

func TestP1WhatIsToldIsTheWatchers(t *testing.T) {
	src := strings.Clone("fun y -> let rec fst = y and abc = fun x -> fst and def = add y 1 in abc")
	typ := strings.Clone("int -> int -> int")
	env := map[string]api.Typed{"add": {Type: typ}}
	var names, schemes [][]string
	infer.Watch(src, env, 12, func(n []string, round int, s []string) bool {
		if len(n) != 3 || len(s) != 3 || round != len(names)+1 {
			t.Fatalf("%q, %d, %q", n, round, s)
		}
		names, schemes = append(names, n), append(schemes, s)
		return true
	})
	want := [][]string{{"int", "a -> b", "int"}, {"int", "a -> int", "int"}, {"int", "a -> int", "int"}}
	for k := range want {
		if !slices.Equal(names[k], []string{"fst", "abc", "def"}) || !slices.Equal(schemes[k], want[k]) {
			t.Errorf("what was told at %d is now %q, %q", k+1, names[k], schemes[k])
		}
		for _, text := range slices.Concat(names[k], schemes[k]) {
			if shared(text, src) || shared(text, typ) {
				t.Errorf("%q is a piece of what was handed in", text)
			}
		}
		for l := range k {
			if &names[k][0] == &names[l][0] || &schemes[k][0] == &schemes[l][0] {
				t.Errorf("what is told at %d and %d is one list", l+1, k+1)
			}
		}
	}
}

func TestP1AWatcherThatWritesIntoTheMap(t *testing.T) {
	env := usual()
	got, err := infer.Watch("let rec f = fun x -> add x 1 in (f, true)", env, 2, func([]string, int, []string) bool {
		clear(env)
		env["X"] = api.Typed{Type: "("}
		return true
	})
	if got != "(int -> int, bool)" || err != nil {
		t.Errorf("%q, %v", got, err)
	}
}

func TestP1ManyWatchersAtOnce(t *testing.T) {
	env := usual()
	var all sync.WaitGroup
	for range 8 {
		all.Add(1)
		go func() {
			defer all.Done()
			for range 50 {
				goesIn(t, env, 3, "fun z -> let rec f = z and g = fun x -> f in (f, g)", "a -> (a, b -> a)", "f g 1: _a; a -> b", "f g 2: _a; a -> _a", "f g 3: _a; a -> _a")
				breaksOffIn(t, env, 3, "let rec f = fun x -> f in f", api.ErrFuel, neverEnding("f", 3)...)
			}
		}()
	}
	all.Wait()
}
