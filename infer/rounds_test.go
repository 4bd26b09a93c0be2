package infer_test

import (
	"errors"
	"slices"
	"strings"
	"testing"

	"schemes/api"
	"schemes/infer"
)

// goesIn: that with those names, and that fuel, Watch tells those rounds and answers that type; and Infer too.
func goesIn(t *testing.T, env map[string]api.Typed, fuel int, src, want string, rounds ...string) {
	t.Helper()
	got, seen, err := watched(src, env, fuel, 0)
	if got != want || err != nil || !slices.Equal(seen, rounds) {
		t.Errorf("Watch(%q, .., %d) = %q, %v with %q, want %q with %q", src, fuel, got, err, seen, want, rounds)
	}
	if got, err := infer.Infer(src, env, fuel); got != want || err != nil {
		t.Errorf("Infer(%q, .., %d) = %q, %v, want %q", src, fuel, got, err, want)
	}
}

// goes: with the usual names, and just as many rounds as the group of most rounds needs.
func goes(t *testing.T, fuel int, src, want string, rounds ...string) {
	t.Helper()
	goesIn(t, usual(), fuel, src, want, rounds...)
	goesIn(t, usual(), api.MaxFuel, src, want, rounds...)
	if fuel > 1 {
		if got, err := infer.Infer(src, usual(), fuel-1); got != "" || !errors.Is(err, api.ErrFuel) {
			t.Errorf("Infer(%q, .., %d) = %q, %v, want one round more to be needed", src, fuel-1, got, err)
		}
	}
}

// breaksOffIn: that with those names, and that fuel, Watch tells those rounds and then that error, and no text; and Infer too.
func breaksOffIn(t *testing.T, env map[string]api.Typed, fuel int, src string, want error, rounds ...string) {
	t.Helper()
	got, seen, err := watched(src, env, fuel, 0)
	if got != "" || !errors.Is(err, want) || !slices.Equal(seen, rounds) {
		t.Errorf("Watch(%q, .., %d) = %q, %v with %q, want %v with %q", src, fuel, got, err, seen, want, rounds)
	}
	if got, err := infer.Infer(src, env, fuel); got != "" || !errors.Is(err, want) {
		t.Errorf("Infer(%q, .., %d) = %q, %v, want %v", src, fuel, got, err, want)
	}
}

func breaksOff(t *testing.T, fuel int, src string, want error, rounds ...string) {
	t.Helper()
	breaksOffIn(t, usual(), fuel, src, want, rounds...)
}

func TestP5ExamplesOfTheDocument(t *testing.T) {
	goes(t, 2, "let rec f = fun x -> if true then x else fst (f (x, x)) in f", "a -> a", "f 1: a -> a", "f 2: a -> a")
	goes(t, 2, "let rec f = fun x -> f (x, 1) in f", "a -> b", "f 1: a -> b", "f 2: a -> b")
	goes(t, 1, "let rec x = x in x", "a", "x 1: a")
	src := "let rec f = g and g = h and h = 1 in (f, g)"
	rounds := []string{"f g h 1: a; a; int", "f g h 2: a; int; int", "f g h 3: int; int; int", "f g h 4: int; int; int"}
	goes(t, 4, src, "(int, int)", rounds...)
	for fuel := 1; fuel <= 3; fuel++ {
		breaksOff(t, fuel, src, api.ErrFuel, rounds[:fuel]...)
	}
	goes(t, 2, "fun y -> let rec f = fun x -> if true then y else f (add y x) in f", "int -> int -> int", "f 1: int -> int", "f 2: int -> int")
	goes(t, 3, "fun z -> let rec f = z and g = fun x -> f in (f, g)", "a -> (a, b -> a)", "f g 1: _a; a -> b", "f g 2: _a; a -> _a", "f g 3: _a; a -> _a")
}

func TestP5RoundsThatNeverEnd(t *testing.T) {
	var rounds []string
	text := "a"
	for fuel := 1; fuel <= api.MaxFuel; fuel++ {
		text += " -> " + standing(fuel)
		rounds = append(rounds, roundText([]string{"f"}, fuel, []string{text}))
		breaksOff(t, fuel, "let rec f = fun x -> f in f", api.ErrFuel, rounds...)
		breaksOff(t, fuel, "let rec f = fun x -> f in 1", api.ErrFuel, rounds...)
	}
	for _, src := range []string{"let rec f = fun x -> f in f", "let rec f = (1, f) in f", "let rec f = cons f nil in 1", "let rec f = (g, 1) and g = cons f nil in f", "let rec f = 1 and g = fun x -> g in f", "let rec g = fun x -> g and f = 1 in f", "fun y -> let rec f = (y, f) in f"} {
		untyped(t, src, api.ErrFuel)
		untyped(t, "fun x -> (1, "+src+")", api.ErrFuel)
		untyped(t, "let rec k = ("+src+") in 1", api.ErrFuel)
		untyped(t, "let rec k = 1 in ("+src+")", api.ErrFuel)
	}
}

func TestP5OneName(t *testing.T) {
	goes(t, 2, "let rec f = 1 in f", "int", "f 1: int", "f 2: int")
	goes(t, 2, "let rec f = 1 in true", "bool", "f 1: int", "f 2: int")
	goes(t, 2, "let rec f = fun x -> x in (f 1, f true)", "(int, bool)", "f 1: a -> a", "f 2: a -> a")
	goes(t, 2, "let rec f = fun x -> if eq x 0 then 0 else add 1 (f x) in f", "int -> int", "f 1: int -> int", "f 2: int -> int")
	goes(t, 2, "let rec m = fun f -> fun l -> if true then nil else cons (f (hd l)) (m f l) in m", "(a -> b) -> [a] -> [b]", "m 1: (a -> b) -> [a] -> [b]", "m 2: (a -> b) -> [a] -> [b]")
	goes(t, 1, "let rec f = f 1 in f", "a", "f 1: a")
	goes(t, 1, "let rec f = n in (f 1, f)", "(a, b)", "f 1: a")
	goes(t, 2, "let rec f = fun x -> f f in f", "a -> b", "f 1: a -> b", "f 2: a -> b")
	goes(t, 2, "let rec f = cons (hd f) (hd (cons f nil)) in f", "[a]", "f 1: [a]", "f 2: [a]")
}

func TestP5SeveralNames(t *testing.T) {
	even := "let rec e = fun x -> if eq x 0 then true else o (add x 1) and o = fun x -> if eq x 0 then true else e (add x 1) in (e, o)"
	goes(t, 2, even, "(int -> bool, int -> bool)", "e o 1: int -> bool; int -> bool", "e o 2: int -> bool; int -> bool")
	goes(t, 1, "let rec f = g and g = f in (f, g)", "(a, b)", "f g 1: a; a")
	goes(t, 2, "let rec f = fun x -> g x and g = fun x -> f x in (f, g)", "(a -> b, c -> d)", "f g 1: a -> b; a -> b", "f g 2: a -> b; a -> b")
	goes(t, 3, "let rec i = fun x -> x and p = (i 1, i true) in p", "(int, bool)", "i p 1: a -> a; (a, b)", "i p 2: a -> a; (int, bool)", "i p 3: a -> a; (int, bool)")
	// A body has the schemes of the round ahead, wherever it stands.
	goes(t, 3, "let rec p = (i 1, i true) and i = fun x -> x in p", "(int, bool)", "p i 1: (a, b); a -> a", "p i 2: (int, bool); a -> a", "p i 3: (int, bool); a -> a")
	goes(t, 3, "let rec h = 1 and g = h and f = 2 in g", "int", "h g f 1: int; a; int", "h g f 2: int; int; int", "h g f 3: int; int; int")
}

func TestP5ManyTypesWithinTheGroup(t *testing.T) {
	goes(t, 2, "let rec f = fun x -> if true then x else snd (f (1, x)) in f", "a -> a", "f 1: a -> a", "f 2: a -> a")
	goes(t, 2, "let rec d = fun x -> if true then 0 else add (d (x, x)) (d (cons x nil)) in d", "a -> int", "d 1: a -> int", "d 2: a -> int")
	goes(t, 3, "let rec f = fun x -> 1 and g = fun y -> (f y, f true) in g", "a -> (int, int)", "f g 1: a -> int; a -> (b, c)", "f g 2: a -> int; a -> (int, int)", "f g 3: a -> int; a -> (int, int)")
	goes(t, 2, "let rec f = fun x -> fun y -> if true then y else f true (f 1 y) in f", "a -> b -> b", "f 1: a -> b -> b", "f 2: a -> b -> b")
	// Within a fun each name is of one type, within the group of many.
	untyped(t, "fun i -> let rec p = (i 1, i true) in p", api.ErrType)
}

func TestP5TheLastRound(t *testing.T) {
	goes(t, 2, "let rec f = fun x -> fun y -> f y x in f", "a -> b -> c", "f 1: a -> b -> c", "f 2: a -> b -> c")
	goes(t, 3, "let rec f = fun x -> fun y -> if true then x else f y x in f", "a -> a -> a", "f 1: a -> b -> a", "f 2: a -> a -> a", "f 3: a -> a -> a")
	goes(t, 3, "let rec f = fun x -> fun y -> if true then (x, y) else f y x in f", "a -> a -> (a, a)", "f 1: a -> b -> (a, b)", "f 2: a -> a -> (a, a)", "f 3: a -> a -> (a, a)")
	// All names count, the first and the last one.
	goes(t, 3, "let rec f = g and g = 1 and h = 1 in h", "int", "f g h 1: a; int; int", "f g h 2: int; int; int", "f g h 3: int; int; int")
	goes(t, 3, "let rec h = 1 and g = 1 and f = g in h", "int", "h g f 1: int; int; a", "h g f 2: int; int; int", "h g f 3: int; int; int")
	// A variable that stood for any type, and now for itself alone, makes another scheme.
	goes(t, 3, "fun y -> let rec f = fun x -> if true then x else g and g = y in f", "a -> a -> a", "f g 1: a -> a; _a", "f g 2: _a -> _a; _a", "f g 3: _a -> _a; _a")
	goes(t, 3, "fun y -> let rec f = g and g = y in f", "a -> a", "f g 1: a; _a", "f g 2: _a; _a", "f g 3: _a; _a")
}

func TestP5WhatHasBeenFoundOutByThen(t *testing.T) {
	// A body ahead has what a later one finds out.
	goes(t, 2, "fun y -> let rec f = y and g = add y 1 in (f, g)", "int -> (int, int)", "f g 1: int; int", "f g 2: int; int")
	goes(t, 2, "fun y -> fun z -> let rec f = (y, z) and g = eq y z in f", "a -> a -> (a, a)", "f g 1: (_a, _a); bool", "f g 2: (_a, _a); bool")
	goes(t, 3, "fun y -> let rec f = y and g = h y and h = add 1 in (f, (g, h))", "int -> (int, (int, int -> int))", "f g h 1: _a; a; int -> int", "f g h 2: int; int; int -> int", "f g h 3: int; int; int -> int")
	// What the last round finds out is found out for the schemes of the round ahead, too.
	goes(t, 2, "fun y -> let rec f = y and g = snd (h y, 1) and h = add 1 in f", "int -> int", "f g h 1: _a; int; int -> int", "f g h 2: int; int; int -> int")
	goes(t, 2, "fun y -> fun z -> let rec f = (y, z) and g = snd (h y z, 1) and h = eq in f", "a -> a -> (a, a)", "f g h 1: (_a, _b); int; a -> a -> bool", "f g h 2: (_a, _a); int; a -> a -> bool")
	goes(t, 2, "fun y -> let rec f = fun x -> (x, y) and g = snd (h y, 1) and h = fst in f", "(a, b) -> c -> (c, (a, b))", "f g h 1: a -> (a, _a); int; (a, b) -> a", "f g h 2: a -> (a, (_a, _b)); int; (a, b) -> a")
	// It stays found out behind the group.
	goes(t, 2, "fun y -> (let rec f = fun x -> add x y in f, y)", "int -> (int -> int, int)", "f 1: int -> int", "f 2: int -> int")
	breaksOff(t, 2, "fun y -> (let rec f = add y 1 in 2, if y then 1 else 2)", api.ErrType, "f 1: int", "f 2: int")
	breaksOff(t, 2, "fun y -> let rec f = add y 1 in if y then 1 else 2", api.ErrType, "f 1: int", "f 2: int")
	goes(t, 2, "fun y -> let rec f = y in (add f 1, y)", "int -> (int, int)", "f 1: _a", "f 2: _a")
	// So it does for what the names of a round ahead have of it.
	breaksOff(t, 12, "fun y -> let rec f = fun x -> y and g = f 1 2 in if y then 1 else 2", api.ErrType, "f g 1: a -> _a; a", "f g 2: a -> int -> _a; _a", "f g 3: a -> int -> _a; _a")
}

func TestP5GroupsWithinFuns(t *testing.T) {
	goes(t, 2, "fun y -> let rec f = fun x -> y in (f 1, f true)", "a -> (a, a)", "f 1: a -> _a", "f 2: a -> _a")
	breaksOff(t, 2, "fun y -> let rec f = y in (f 1, f true)", api.ErrType, "f 1: _a", "f 2: _a")
	goes(t, 2, "fun y -> let rec f = fun x -> (x, y) in (f 1, f true)", "a -> ((int, a), (bool, a))", "f 1: a -> (a, _a)", "f 2: a -> (a, _a)")
	breaksOff(t, 2, "fun y -> let rec f = fun x -> if true then x else y in (f 1, f true)", api.ErrType, "f 1: _a -> _a", "f 2: _a -> _a")
	goes(t, 2, "fun y -> let rec f = hd y in f", "[a] -> a", "f 1: _a", "f 2: _a")
	breaksOff(t, 2, "fun y -> let rec f = hd y in (f 1, f true)", api.ErrType, "f 1: _a", "f 2: _a")
	// The fun is the body's own: behind it, its variable stands for any type.
	goes(t, 2, "let rec f = fun x -> let rec g = x in g in (f 1, f true)", "(int, bool)", "g 1: _a", "g 2: _a", "f 1: a -> a", "g 1: _a", "g 2: _a", "f 2: a -> a")
}

func TestP5GroupsBehindLets(t *testing.T) {
	goes(t, 2, "fun y -> let z = (y, nil) in let rec f = fst z and g = snd z in (f, g)", "a -> (a, [b])", "f g 1: _a; [a]", "f g 2: _a; [a]")
	goes(t, 2, "let z = fun x -> x in let rec f = z in (f 1, f true)", "(int, bool)", "f 1: a -> a", "f 2: a -> a")
	goes(t, 2, "fun y -> let z = y in let rec f = add z 1 in (z, y)", "int -> (int, int)", "f 1: int", "f 2: int")
	breaksOff(t, 2, "fun y -> let z = y in let rec f = z in (f 1, f true)", api.ErrType, "f 1: _a", "f 2: _a")
	breaksOff(t, 2, "fun y -> let z = y in fun y -> let rec f = z in (f 1, f true)", api.ErrType, "f 1: _a", "f 2: _a")
	goes(t, 2, "let g = let rec f = fun x -> x in f in (g 1, g true)", "(int, bool)", "f 1: a -> a", "f 2: a -> a")
	goes(t, 2, "fun y -> let g = let rec f = fun x -> y in f in (g 1, g true)", "a -> (a, a)", "f 1: a -> _a", "f 2: a -> _a")
	goes(t, 2, "fun y -> let rec f = fun x -> (x, y) in let g = f in (g 1, g true)", "a -> ((int, a), (bool, a))", "f 1: a -> (a, _a)", "f 2: a -> (a, _a)")
}

func TestP5HiddenNames(t *testing.T) {
	goes(t, 2, "let rec add = fun x -> add x in add", "a -> b", "add 1: a -> b", "add 2: a -> b")
	goes(t, 2, "let rec x = fun x -> x in x", "a -> a", "x 1: a -> a", "x 2: a -> a")
	goes(t, 2, "fun f -> let rec f = fun x -> f x in f", "a -> b -> c", "f 1: a -> b", "f 2: a -> b")
	goes(t, 2, "fun f -> (let rec f = 1 in f, f)", "a -> (int, a)", "f 1: int", "f 2: int")
	goes(t, 2, "fun f -> let g = f in let rec f = g in (f, f)", "a -> (a, a)", "f 1: _a", "f 2: _a")
	goes(t, 2, "let rec f = 1 in let rec f = (fun f -> f) true in f", "bool", "f 1: int", "f 2: int", "f 1: bool", "f 2: bool")
	goes(t, 2, "let rec f = let rec f = true in 1 in f", "int", "f 1: bool", "f 2: bool", "f 1: int", "f 1: bool", "f 2: bool", "f 2: int")
	goes(t, 2, "let rec f = let f = true in 1 in f", "int", "f 1: int", "f 2: int")
}

func TestP5GroupsWithinGroups(t *testing.T) {
	goes(t, 1, "let rec f = let rec g = f in g in f", "a", "g 1: a", "f 1: a")
	goes(t, 2, "let rec f = fun x -> let rec g = fun y -> f y in g x in f", "a -> b", "g 1: a -> b", "g 2: a -> b", "f 1: a -> b", "g 1: a -> b", "g 2: a -> b", "f 2: a -> b")
	// How many rounds the inner one takes hangs on the outer one's schemes.
	goes(t, 3, "let rec f = 1 and g = let rec h = f in h in g", "int", "h 1: a", "f g 1: int; a", "h 1: int", "h 2: int", "f g 2: int; int", "h 1: int", "h 2: int", "f g 3: int; int")
	goes(t, 2, "let rec f = 1 in let rec g = f in g", "int", "f 1: int", "f 2: int", "g 1: int", "g 2: int")
	goes(t, 2, "(let rec f = 1 in f, let rec f = true in f)", "(int, bool)", "f 1: int", "f 2: int", "f 1: bool", "f 2: bool")
	breaksOff(t, 12, "let rec f = 1 and g = let rec h = fun x -> h in 1 1 in g", api.ErrFuel, neverEnding("h", 12)...)
	// The inner group finds something out of what the outer one's body has bound.
	goes(t, 2, "let rec f = fun x -> let rec g = add x 1 in x in f", "int -> int", "g 1: int", "g 2: int", "f 1: int -> int", "g 1: int", "g 2: int", "f 2: int -> int")
	goes(t, 2, "let rec f = fun x -> fun y -> let rec g = (x, y) and h = eq x y in g in f", "a -> a -> (a, a)",
		"g h 1: (_a, _a); bool", "g h 2: (_a, _a); bool", "f 1: a -> a -> (a, a)", "g h 1: (_a, _a); bool", "g h 2: (_a, _a); bool", "f 2: a -> a -> (a, a)")
}

// neverEnding: the rounds of a name that is fun x -> itself.
func neverEnding(name string, count int) []string {
	var rounds []string
	text := "a"
	for k := 1; k <= count; k++ {
		text += " -> " + standing(k)
		rounds = append(rounds, roundText([]string{name}, k, []string{text}))
	}
	return rounds
}

func TestP5AsManyRoundsAsAreNeeded(t *testing.T) {
	// Each name is the next one, the last is a number: it takes a round for each, and one that is the same.
	names := strings.Split("abcdefghijkl", "")
	for count := 1; count <= len(names); count++ {
		var bodies []string
		for k := range count - 1 {
			bodies = append(bodies, names[k]+"="+names[k+1])
		}
		src := "let rec " + strings.Join(append(bodies, names[count-1]+"=1"), " and ") + " in a"
		for fuel := 1; fuel <= api.MaxFuel; fuel++ {
			got, rounds, err := watched(src, nil, fuel, 0)
			if fuel > count && (got != "int" || err != nil || len(rounds) != count+1) {
				t.Errorf("Watch(%q, .., %d) = %q, %v behind %d rounds", src, fuel, got, err, len(rounds))
			}
			if fuel <= count && (got != "" || !errors.Is(err, api.ErrFuel) || len(rounds) != fuel) {
				t.Errorf("Watch(%q, .., %d) = %q, %v behind %d rounds", src, fuel, got, err, len(rounds))
			}
		}
	}
}

func TestP5EachGroupHasItsOwnRounds(t *testing.T) {
	two := "let rec f = 1 in f"
	three := "let rec f = g and g = 1 in f"
	goesIn(t, nil, 2, "("+two+", "+two+")", "(int, int)", "f 1: int", "f 2: int", "f 1: int", "f 2: int")
	breaksOffIn(t, nil, 2, "("+two+", "+three+")", api.ErrFuel, "f 1: int", "f 2: int", "f g 1: a; int", "f g 2: int; int")
	for _, src := range []string{"let rec h = " + two + " in h", "let rec h = 1 in " + two, "let rec h = let rec k = " + two + " in k in h", "fun x -> let rec h = " + two + " in " + two} {
		if got, err := infer.Infer(src, nil, 2); !strings.HasSuffix(got, "int") || err != nil {
			t.Errorf("Infer(%q, nil, 2) = %q, %v", src, got, err)
		}
		if got, err := infer.Infer(src, nil, 1); got != "" || !errors.Is(err, api.ErrFuel) {
			t.Errorf("Infer(%q, nil, 1) = %q, %v", src, got, err)
		}
	}
	for _, src := range []string{"let rec h = " + three + " in h", "let rec h = 1 in " + three, "let rec h = let rec k = " + three + " in k in h"} {
		untypedWith(t, src, 2, api.ErrFuel)
		typed(t, src, "int")
	}
}

func untypedWith(t *testing.T, src string, fuel int, want error) {
	t.Helper()
	if got, err := infer.Infer(src, usual(), fuel); got != "" || !errors.Is(err, want) {
		t.Errorf("Infer(%q, .., %d) = %q, %v, want %v", src, fuel, got, err, want)
	}
}

func TestP5TypesThatCannotBeMadeEqualWithinARound(t *testing.T) {
	breaksOff(t, 12, "let rec f = 1 1 in f", api.ErrType)
	breaksOff(t, 1, "let rec f = 1 and g = 1 1 in f", api.ErrType)
	breaksOff(t, 12, "let rec f = add (f 1) (f true) in f", api.ErrType, "f 1: int")
	breaksOff(t, 12, "let rec f = add g 1 and g = fun x -> f in f", api.ErrType, "f g 1: int; a -> b")
	breaksOff(t, 1, "let rec f = add g 1 and g = fun x -> f in f", api.ErrFuel, "f g 1: int; a -> b")
	breaksOff(t, 12, "let rec f = fun x -> (f 1, 1) and g = add (f 2) 1 in f", api.ErrType, "f g 1: a -> (b, int); int")
	breaksOff(t, 12, "let rec f = 1 in f 2", api.ErrType, "f 1: int", "f 2: int")
	breaksOff(t, 12, "let rec f = fun x -> add x 1 in f true", api.ErrType, "f 1: int -> int", "f 2: int -> int")
	breaksOff(t, 12, "fun x -> let rec f = x x in f", api.ErrType)
	breaksOff(t, 12, "fun x -> let rec f = x g and g = x in f", api.ErrType, "f g 1: _a; _b -> _a")
	breaksOff(t, 12, "let rec f = let rec g = 1 in g 1 in f", api.ErrType, "g 1: int", "g 2: int")
}

func TestP5TypesThatAreTooBigWithinARound(t *testing.T) {
	// The type of f 1 is of a size of 1, 3, 7 .. 63 in the rounds; the pair's of 127 in the sixth.
	src := "let rec f = fun x -> (f 1, f true) in f"
	for fuel := 1; fuel <= api.MaxFuel; fuel++ {
		got, rounds, err := watched(src, usual(), fuel, 0)
		want, count := api.ErrBig, 5
		if fuel <= 5 {
			want, count = api.ErrFuel, fuel
		}
		if got != "" || !errors.Is(err, want) || len(rounds) != count {
			t.Errorf("Watch(%q, .., %d) = %q, %v behind %d rounds", src, fuel, got, err, len(rounds))
		}
	}
	env := sized(59, 60, 61, 120)
	breaksOffIn(t, env, 12, "let rec f = (b60, b60) in 1", api.ErrBig)
	breaksOffIn(t, env, 12, "let rec f = k (b60, b60) in 1", api.ErrBig)
	breaksOffIn(t, env, 12, "let rec f = 1 in k (b60, b60)", api.ErrBig, "f 1: int", "f 2: int")
	breaksOffIn(t, env, 12, "let rec f = (g, b60) and g = b60 in 1", api.ErrBig, "f g 1: (a, "+env["b60"].Type+"); "+env["b60"].Type)
	breaksOffIn(t, env, 12, "let rec f = (g, b60) and g = b59 in (f, 1)", api.ErrBig, "f g 1: (a, "+env["b60"].Type+"); "+env["b59"].Type, "f g 2: ("+env["b59"].Type+", "+env["b60"].Type+"); "+env["b59"].Type, "f g 3: ("+env["b59"].Type+", "+env["b60"].Type+"); "+env["b59"].Type)
	goesIn(t, env, 2, "let rec f = b120 in k f", "int", "f 1: "+env["b120"].Type, "f 2: "+env["b120"].Type)
}

func TestP5BiggerAfterwards(t *testing.T) {
	// f is of the type of y, which is found out to be too big when f's body has been typed: the next that has it is refused.
	env := sized(59, 60)
	env["p"] = api.Typed{Type: "(a, a) -> a -> int"}
	src := "fun y -> fun z -> let rec f = y and g = k (p y z, eq z SIZE) in 1"
	fits, big := strings.ReplaceAll(src, "SIZE", "b59"), strings.ReplaceAll(src, "SIZE", "b60")
	two := func(name string) string { return "(" + env[name].Type + ", " + env[name].Type + ")" }
	breaksOffIn(t, env, 12, fits, api.ErrBig, "f g 1: "+two("b59")+"; int", "f g 2: "+two("b59")+"; int")
	breaksOffIn(t, env, 12, big, api.ErrBig, "f g 1: "+two("b60")+"; int")
	breaksOffIn(t, env, 1, big, api.ErrFuel, "f g 1: "+two("b60")+"; int")
	// It may be found out in the last round, too.
	src = "fun y -> fun z -> let rec f = y and h = p and g = k (h y z, eq z b60) in 1 1"
	rounds := []string{"f h g 1: _a; (a, a) -> a -> int; int", "f h g 2: " + two("b60") + "; (a, a) -> a -> int; int"}
	breaksOffIn(t, env, 1, src, api.ErrFuel, rounds[:1]...)
	breaksOffIn(t, env, 2, src, api.ErrType, rounds...)
	breaksOffIn(t, env, 2, strings.ReplaceAll(src, "1 1", "k f"), api.ErrBig, rounds...)
}

func TestP5WhatTypingTellsFirst(t *testing.T) {
	env := sized(60)
	parts := map[string]error{"(1 1)": api.ErrType, "(b60, b60)": api.ErrBig, "(let rec f = fun x -> f in 1)": api.ErrFuel}
	for first, want := range parts {
		for second := range parts {
			for _, around := range []string{"let rec x = FIRST and y = SECOND in 1", "let rec x = FIRST in SECOND", "let rec x = let rec y = FIRST in 1 and z = SECOND in 1", "(FIRST, let rec x = SECOND in x)", "(let rec x = FIRST in x, SECOND)", "let x = FIRST in let rec y = SECOND in x", "let rec x = (FIRST, SECOND) in x"} {
				untypedIn(t, env, strings.NewReplacer("FIRST", first, "SECOND", second).Replace(around), want)
			}
		}
	}
}

func TestP5ErrorsAheadOfAllRounds(t *testing.T) {
	group := "let rec f = 1 in f"
	breaksOffIn(t, nil, 0, group, api.ErrArg)
	breaksOffIn(t, nil, api.MaxFuel+1, group, api.ErrArg)
	breaksOffIn(t, nil, 2, group+strings.Repeat(" ", api.MaxText), api.ErrLong)
	breaksOffIn(t, nil, 2, "("+group+", "+nested(api.MaxDepth)+")", api.ErrDeep)
	for _, c := range []struct {
		env map[string]api.Typed
		src string
	}{
		{nil, "(" + group + ", y)"}, {nil, "let rec f = 1 and g = y in f"}, {nil, "let rec f = 1 in y"}, {nil, "let rec f = y in 1"}, {nil, "let rec f = 1 1 in y"}, {nil, "let rec f = fun x -> f in y"}, {nil, "(" + group + ", f)"},
		{given("X", "int"), group}, {given("x", "("), group}, {nil, group + " )"}, {nil, "let rec f = 1 and f = 2 in f"},
	} {
		got, rounds, err := watched(c.src, c.env, 2, 0)
		_, errInfer := infer.Infer(c.src, c.env, 2)
		if got != "" || err == nil || told(err) != told(errInfer) || len(rounds) > 0 {
			t.Errorf("Watch(%q) = %q, %v behind %d rounds, but Infer: %v", c.src, got, err, len(rounds), errInfer)
		}
	}
	unbound(t, nil, "("+group+", y)", 21, "y")
	unbound(t, nil, "let rec f = 1 1 in y", 19, "y")
}
