package infer_test

import (
	"errors"
	"maps"
	"strconv"
	"strings"
	"testing"

	"schemes/api"
	"schemes/infer"
)

// given: a map from names to types: a name, a type, a name, a type ..
func given(pairs ...string) map[string]api.Typed {
	env := map[string]api.Typed{}
	for k := 0; k < len(pairs); k += 2 {
		env[pairs[k]] = api.Typed{Type: pairs[k+1]}
	}
	return env
}

// usual: what most expressions here are typed with; n is of any type.
func usual() map[string]api.Typed {
	return given("true", "bool", "nil", "[a]", "cons", "a -> [a] -> [a]", "fst", "(a, b) -> a", "snd", "(a, b) -> b", "add", "int -> int -> int", "eq", "a -> a -> bool", "hd", "[x] -> x", "n", "a")
}

// typedIn: that Infer answers that type, with those names.
func typedIn(t *testing.T, env map[string]api.Typed, src, want string) {
	t.Helper()
	if got, err := infer.Infer(src, env, api.MaxFuel); got != want || err != nil {
		t.Errorf("Infer(%q) = %q, %v, want %q", src, got, err, want)
	}
}

func typed(t *testing.T, src, want string) {
	t.Helper()
	typedIn(t, usual(), src, want)
}

// untypedIn: that Infer answers that error and no text, with those names.
func untypedIn(t *testing.T, env map[string]api.Typed, src string, want error) {
	t.Helper()
	if got, err := infer.Infer(src, env, api.MaxFuel); got != "" || !errors.Is(err, want) {
		t.Errorf("Infer(%.80q) = %q, %v, want %v", src, got, err, want)
	}
}

func untyped(t *testing.T, src string, want error) {
	t.Helper()
	untypedIn(t, usual(), src, want)
}

// unbound: that Infer tells that name, at that place.
func unbound(t *testing.T, env map[string]api.Typed, src string, at int, name string) {
	t.Helper()
	got, err := infer.Infer(src, env, 1)
	var u *api.UnboundError
	if got != "" || !errors.As(err, &u) || u.At != at || u.Name != name {
		t.Errorf("Infer(%q) = %q, %v, want %s at %d to stand for nothing", src, got, err, name, at)
	}
}

// refusesName: that Infer tells that name of the map, and nothing of its type.
func refusesName(t *testing.T, env map[string]api.Typed, src string, name string) {
	t.Helper()
	got, err := infer.Infer(src, env, 1)
	var e *api.EnvError
	if got != "" || !errors.As(err, &e) || e.Name != name || e.Why != nil || errors.Unwrap(err) != nil {
		t.Errorf("Infer(%q) with %.100v = %q, %v, want %q to be no name", src, env, got, err, name)
	}
}

// refusesType: that Infer tells that name of the map, and the error that Canon has of its type.
func refusesType(t *testing.T, env map[string]api.Typed, src string, name string) {
	t.Helper()
	_, why := infer.Canon(env[name].Type)
	got, err := infer.Infer(src, env, 1)
	var e *api.EnvError
	if got != "" || !errors.As(err, &e) || e.Name != name || e.Why == nil || errors.Unwrap(err) != e.Why {
		t.Fatalf("Infer(%q) with %.100v = %q, %v, want the type of %q to be none", src, env, got, err, name)
	}
	var s, inner *api.SyntaxError
	if errors.As(why, &s) {
		if !errors.As(err, &inner) || inner.At != s.At {
			t.Errorf("Infer(%q): %v unwraps to %v, want %v", src, err, e.Why, why)
		}
	} else if !errors.Is(err, why) {
		t.Errorf("Infer(%q): %v unwraps to %v, want %v", src, err, e.Why, why)
	}
}

func TestP4ExamplesOfTheDocument(t *testing.T) {
	typed(t, "fun x->x", "a -> a")
	typed(t, "fun f -> fun g -> fun x -> f (g x)", "(a -> b) -> (c -> a) -> c -> b")
	typed(t, "(1,(true))", "(int, bool)")
	typed(t, "let i = fun x -> x in (i 1, i true)", "(int, bool)")
	untyped(t, "(fun i -> (i 1, i true)) (fun x -> x)", api.ErrType)
	untyped(t, "fun x -> x x", api.ErrType)
	untyped(t, "1 2", api.ErrType)
	untyped(t, "if true then 1 else true", api.ErrType)
	typed(t, "fun x -> let y = fun z -> x in y", "a -> b -> a")
	typed(t, "fun x -> cons (x, nil) nil", "a -> [(a, [b])]")
	untyped(t, "let d = fun x -> (x, x) in d (d (d (d (d (d 1)))))", api.ErrBig)
	want := "int"
	for range 5 {
		want = "(" + want + ", " + want + ")"
	}
	typed(t, "let d = fun x -> (x, x) in d (d (d (d (d 1))))", want)
	refusesType(t, given("x", "int", "b", "(", "c", ")"), "y", "b")
	refusesName(t, given("let", "int"), "y", "let")
	unbound(t, given("x", "int"), "y", 0, "y")
	unbound(t, nil, "let x = x in 1", 8, "x")
}

func TestP4NumbersAndNames(t *testing.T) {
	typed(t, "0", "int")
	typed(t, "12345678", "int")
	typed(t, "((\n1))", "int")
	typed(t, "true", "bool")
	typed(t, "nil", "[a]")
	typed(t, "n", "a")
	typed(t, "snd", "(a, b) -> b")
	typed(t, "hd", "[a] -> a")
	typedIn(t, given("x", "(q->p)->[q]"), "x", "(a -> b) -> [a]")
	typedIn(t, given("x", "let -> fun -> let"), "x", "a -> b -> a")
	typedIn(t, given("int", "bool", "bool", "[int]"), "(int, bool)", "(bool, [int])")
	typedIn(t, given("abcdefgh", "int"), "abcdefgh", "int")
}

func TestP4Functions(t *testing.T) {
	typed(t, "fun x -> 1", "a -> int")
	typed(t, "fun x -> fun y -> x", "a -> b -> a")
	typed(t, "fun x -> fun y -> y", "a -> b -> b")
	typed(t, "fun x -> fun y -> fun z -> (z, y)", "a -> b -> c -> (c, b)")
	typed(t, "fun x -> add x", "int -> int -> int")
	typed(t, "fun x -> fun y -> if eq x y then x else y", "a -> a -> a")
	typed(t, "fun f -> fun x -> f (f x)", "(a -> a) -> a -> a")
	typed(t, "fun f -> f 1", "(int -> a) -> a")
	typed(t, "fun f -> (f 1, f 2)", "(int -> a) -> (a, a)")
	typed(t, "fun x -> fun y -> fun z -> x z (y z)", "(a -> b -> c) -> (a -> b) -> a -> c")
}

func TestP4Applications(t *testing.T) {
	typed(t, "add 1", "int -> int")
	typed(t, "add 1 2", "int")
	typed(t, "add (add 1 2) (hd nil)", "int")
	typed(t, "(fun x -> x) (fun y -> y)", "a -> a")
	typed(t, "cons 1 nil", "[int]")
	typed(t, "cons nil nil", "[[a]]")
	typed(t, "cons fst", "[(a, b) -> a] -> [(a, b) -> a]")
	typed(t, "cons fst (cons snd nil)", "[(a, a) -> a]")
	typed(t, "fst (1, true)", "int")
	typed(t, "snd (1, true)", "bool")
	typed(t, "n 1", "a")
	typed(t, "n n", "a")
	typed(t, "add (n 1) (n true)", "int")
	typed(t, "eq (fun x -> x) (add 1)", "bool")
	for _, src := range []string{"1 2", "true 1", "nil 1", "(1, 2) 3", "add true", "add 1 true", "add 1 2 3", "fst 1", "fst nil", "fst add", "hd (1, 2)", "cons 1 (cons true nil)", "cons 1 1", "eq 1 true", "eq nil 1", "eq (1, 1) (1, true)", "eq (1, 1) (true, 1)", "eq add fst", "eq (fun x -> 1) (fun x -> true)", "eq (fun x -> add x) (fun x -> if x then add 1 else add 2)"} {
		untyped(t, src, api.ErrType)
	}
}

func TestP4Pairs(t *testing.T) {
	typed(t, "(1, 2)", "(int, int)")
	typed(t, "(1, (true, nil))", "(int, (bool, [a]))")
	typed(t, "((1, true), nil)", "((int, bool), [a])")
	typed(t, "(nil, nil)", "([a], [b])")
	typed(t, "fun x -> (x, x)", "a -> (a, a)")
	typed(t, "fun x -> fun y -> (y, x)", "a -> b -> (b, a)")
	untyped(t, "(1 1, 2)", api.ErrType)
	untyped(t, "(1, 2 2)", api.ErrType)
}

func TestP4Choices(t *testing.T) {
	typed(t, "if true then 1 else 2", "int")
	typed(t, "if n then n else n", "a")
	typed(t, "if eq 1 2 then nil else cons 1 nil", "[int]")
	typed(t, "if true then cons 1 nil else nil", "[int]")
	typed(t, "fun b -> if b then b else true", "bool -> bool")
	typed(t, "fun b -> fun x -> fun y -> if b then x else y", "bool -> a -> a -> a")
	typed(t, "fun b -> if b then fst else snd", "bool -> (a, a) -> a")
	untyped(t, "if 1 then 1 else 1", api.ErrType)
	untyped(t, "if nil then 1 else 1", api.ErrType)
	untyped(t, "if true then 1 else true", api.ErrType)
	untyped(t, "if true then true else 1", api.ErrType)
	untyped(t, "if true then (1, 1) else (1, true)", api.ErrType)
	untyped(t, "fun b -> if b then b else 1", api.ErrType)
	untyped(t, "fun b -> if b then 1 else b", api.ErrType)
	untyped(t, "fun b -> (if b then 1 else 2, add b)", api.ErrType)
}

func TestP4WithinItself(t *testing.T) {
	for _, src := range []string{
		"fun x -> x x", "fun x -> eq x (x, x)", "fun x -> eq (1, x) x", "fun x -> cons x x", "fun x -> eq x (fun y -> x)", "fun x -> eq x (cons x nil)",
		"fun x -> fun y -> (eq x (y, 1), eq y (x, 1))", "fun x -> fun y -> (eq x (cons y nil), eq x y)", "fun x -> fun y -> (eq x y, eq x (cons y nil))",
		"fun x -> if true then x else (x, x)", "fun x -> if true then (x, x) else x", "fun f -> f f", "fun f -> f (fun x -> f)",
		"(fun x -> x x) (fun x -> x x)", "fun x -> fun y -> fun z -> (eq x (y, y), (eq y (z, z), eq z x))",
	} {
		untyped(t, src, api.ErrType)
	}
	typed(t, "fun x -> eq x x", "a -> bool")
	typed(t, "fun x -> fun y -> (eq x y, eq y x)", "a -> a -> (bool, bool)")
	typed(t, "fun x -> fun y -> (eq x (y, y), eq (y, y) x)", "(a, a) -> a -> (bool, bool)")
	typed(t, "let i = fun x -> x in i i", "a -> a")
}

func TestP4Lets(t *testing.T) {
	typed(t, "let x = 1 in x", "int")
	typed(t, "let x = 1 in true", "bool")
	typed(t, "let x = 1 in let y = x in (x, y)", "(int, int)")
	typed(t, "let x = let y = 1 in (y, true) in fst x", "int")
	typed(t, "let f = fun x -> x in let g = f in (g 1, g true)", "(int, bool)")
	typed(t, "let f = fun x -> fun y -> x in (f 1 true, f true 1)", "(int, bool)")
	typed(t, "let e = nil in (cons 1 e, cons true e)", "([int], [bool])")
	typed(t, "let p = (fun x -> x, nil) in (fst p 1, (fst p true, snd p))", "(int, (bool, [a]))")
	typed(t, "let c = fun f -> fun g -> fun x -> f (g x) in c (add 1) fst", "(int, a) -> int")
	typed(t, "let a = hd nil in (add a 1, if a then 1 else 2)", "(int, int)")
	untyped(t, "let x = 1 in if x then 1 else 2", api.ErrType)
	untyped(t, "let x = 1 1 in 2", api.ErrType)
	untyped(t, "let f = fun x -> add x 1 in f true", api.ErrType)
	untyped(t, "(let x = 1 in x) 2", api.ErrType)
}

func TestP4VariablesThatStandForThemselves(t *testing.T) {
	typed(t, "fun x -> let y = x in (y, y)", "a -> (a, a)")
	untyped(t, "fun x -> let y = x in (y 1, y true)", api.ErrType)
	typed(t, "fun x -> let y = x in (y 1, y 2)", "(int -> a) -> (a, a)")
	typed(t, "fun x -> let y = x in (add y 1, x)", "int -> (int, int)")
	typed(t, "fun x -> let y = (x, nil) in (cons 1 (snd y), cons x (snd y))", "a -> ([int], [a])")
	untyped(t, "fun x -> let y = x in let z = y in (z 1, z true)", api.ErrType)
	untyped(t, "fun x -> let y = x in fun x -> let z = y in (z 1, z true)", api.ErrType)
	untyped(t, "fun x -> let y = fun u -> x u in (y 1, y true)", api.ErrType)
	untyped(t, "fun x -> let y = (fun u -> x) 1 in (y 1, y true)", api.ErrType)
	untyped(t, "fun f -> let g = f in g g", api.ErrType)
	typed(t, "fun x -> let y = fun z -> x in (y 1, y true)", "a -> (a, a)")
	typed(t, "fun x -> let p = fun z -> (x, z) in (p 1, p true)", "a -> ((a, int), (a, bool))")
	typed(t, "fun x -> let p = fun z -> (x, z) in (p 1, (p true, if x then 1 else 2))", "bool -> ((bool, int), ((bool, bool), int))")
	untyped(t, "fun x -> let p = fun z -> (x, z) in (add (fst (p 1)) 1, if fst (p 1) then 1 else 2)", api.ErrType)
}

func TestP4WhatHasBeenFoundOutByThen(t *testing.T) {
	// What is found out while the value is typed ties its variables to x.
	untyped(t, "fun x -> let f = fun y -> if true then x else y in (f 1, f true)", api.ErrType)
	typed(t, "fun x -> let f = fun y -> if true then x else y in (f 1, f 2)", "int -> (int, int)")
	untyped(t, "fun x -> let f = fst x in (f 1, f true)", api.ErrType)
	typed(t, "fun x -> let f = fst x in (f 1, snd x)", "(int -> a, b) -> (a, b)")
	untyped(t, "fun x -> let h = hd x in (h 1, h true)", api.ErrType)
	typed(t, "fun x -> let f = fun y -> cons y x in (f 1, x)", "[int] -> ([int], [int])")
	untyped(t, "fun x -> let f = fun y -> cons y x in (f 1, f true)", api.ErrType)
	untyped(t, "fun x -> let r = x 1 in (r 1, r true)", api.ErrType)
	// What has been found out ahead of the value unties them again: x is of int, or of a list that has no variables.
	typed(t, "fun x -> (eq x 1, let f = fun y -> (x, y) in (f 1, f true))", "int -> (bool, ((int, int), (int, bool)))")
	untyped(t, "fun x -> fun y -> (eq x y, let z = y in (z 1, z true))", api.ErrType)
	untyped(t, "fun x -> fun y -> (eq x (y, 1), let z = fst x in (z 1, z true))", api.ErrType)
	// What is found out behind the value is found out for its scheme too.
	typed(t, "fun x -> let y = x in (eq x 1, y)", "int -> (bool, int)")
	typed(t, "fun x -> fun y -> let p = fun z -> (y, z) in (eq x y, (eq x 1, p true))", "int -> int -> (bool, (bool, (int, bool)))")
	untyped(t, "fun x -> let y = x in (eq x 1, if y then 1 else 2)", api.ErrType)
}

func TestP4HiddenNames(t *testing.T) {
	typed(t, "fun fst -> fst 1", "(int -> a) -> a")
	typed(t, "(fun true -> add true 1) 1", "int")
	typed(t, "let add = fst in add (1, true)", "int")
	typed(t, "let fst = fun p -> (fst p, snd p) in fst (1, true)", "(int, bool)")
	typed(t, "fun x -> fun x -> x", "a -> b -> b")
	typed(t, "fun x -> (fun x -> x, x)", "a -> (b -> b, a)")
	typed(t, "let x = 1 in let x = true in x", "bool")
	typed(t, "let x = 1 in let x = (x, x) in x", "(int, int)")
	typed(t, "let x = 1 in (let x = true in x, x)", "(bool, int)")
	typed(t, "fun x -> let x = (x, 1) in x", "a -> (a, int)")
	typed(t, "let x = 1 in fun x -> x", "a -> a")
	typed(t, "fun a -> (if a then 1 else 2, fun a -> a)", "bool -> (int, a -> a)")
	typed(t, "(fun add -> add, add 1)", "(a -> a, int -> int)")
}

func TestP4InstancesOfTheMapsTypes(t *testing.T) {
	typed(t, "(cons 1 nil, cons true nil)", "([int], [bool])")
	typed(t, "(fst, fst)", "((a, b) -> a, (c, d) -> c)")
	typed(t, "(hd, nil)", "([a] -> a, [b])")
	typed(t, "fun x -> (eq x, eq)", "a -> (a -> bool, b -> b -> bool)")
	typed(t, "(eq 1 1, (eq true true, eq))", "(bool, (bool, a -> a -> bool))")
	typedIn(t, given("f", "a -> b", "g", "b -> a"), "(f, g)", "(a -> b, c -> d)")
	typedIn(t, given("f", "a -> b -> a"), "fun x -> f x (f 1)", "a -> a")
	untypedIn(t, given("f", "a -> a"), "f 1 1", api.ErrType)
}

// sized: a map where each name bN is a list of lists .. of int, of a size of N; k and w are functions; n is of any type.
func sized(sizes ...int) map[string]api.Typed {
	env := given("k", "a -> int", "w", "a -> [a]", "eq", "a -> a -> bool", "n", "a", "true", "bool")
	for _, s := range sizes {
		env["b"+strconv.Itoa(s)] = api.Typed{Type: strings.ReplaceAll(listed(s), "a", "int")}
	}
	return env
}

func TestP4BigBehindEachPart(t *testing.T) {
	env := sized(57, 58, 59, 60, 61, 117, 118, 119, 120)
	for _, c := range []struct{ fits, big string }{
		{"w b119", "w b120"},
		{"w (w b118)", "w (w b119)"},
		{"w (w b118)", "w (w b120)"},
		{"(b59, b60)", "(b60, b60)"},
		{"(b60, b59)", "(b60, b60)"},
		{"fun x -> b118", "fun x -> b119"},
		{"fun x -> fun y -> (y, b60)", "fun x -> fun y -> (b57, b60)"},
		{"if true then (n, b60) else (b59, n)", "if true then (n, b60) else (b60, n)"},
		{"let x = b60 in (b59, x)", "let x = b60 in (x, x)"},
		{"let x = w b119 in x", "let x = w b120 in 1"},
		{"fun x -> (eq x b58, x)", "fun x -> (eq x b59, x)"},
	} {
		got, err := infer.Infer(c.fits, env, 1)
		if got == "" || err != nil {
			t.Errorf("Infer(%q): %v", c.fits, err)
		}
		if _, err := infer.Canon(got); len(got) <= api.MaxText && err != nil {
			t.Errorf("Infer(%q) = %q: %v", c.fits, got, err)
		}
		typedIn(t, env, "k ("+c.fits+")", "int")
		untypedIn(t, env, c.big, api.ErrBig)
		untypedIn(t, env, "k ("+c.big+")", api.ErrBig)
		untypedIn(t, env, "if true then k ("+c.big+") else 1", api.ErrBig)
		untypedIn(t, env, "let z = k ("+c.big+") in z", api.ErrBig)
		untypedIn(t, env, "fun z -> k ("+c.big+")", api.ErrBig)
	}
	typedIn(t, env, "b120", env["b120"].Type)
}

func TestP4BigBehindAName(t *testing.T) {
	// x is a pair of what y is, which is found out later; x is not asked for in between.
	src := "fun y -> fun x -> k (eq x (y, y), (eq y SIZE, x 1))"
	env := sized(59, 60, 61)
	untypedIn(t, env, strings.ReplaceAll(src, "SIZE", "b59"), api.ErrType)
	untypedIn(t, env, strings.ReplaceAll(src, "SIZE", "b60"), api.ErrBig)
	untypedIn(t, env, strings.ReplaceAll(src, "SIZE", "b61"), api.ErrBig)
	// Likewise of a scheme that has variables of both kinds.
	src = "fun y -> let f = fun z -> (y, z) in k (eq y SIZE, f 1 1)"
	env = sized(115, 116, 117, 118)
	untypedIn(t, env, strings.ReplaceAll(src, "SIZE", "b116"), api.ErrType)
	untypedIn(t, env, strings.ReplaceAll(src, "SIZE", "b117"), api.ErrBig)
}

func TestP4BiggerAfterwards(t *testing.T) {
	// A part's type is looked at behind the part, and not again when more has been found out.
	env := sized(60, 61, 119, 120)
	env["g"] = api.Typed{Type: "(" + env["b60"].Type + ", a) -> int"}
	typedIn(t, env, "k b120", "int")
	typedIn(t, env, "g (n, b60)", "int")
	typedIn(t, env, "let f = fun x -> 1 in f b120", "int")
	typedIn(t, env, "(fun x -> 1) b120", "int")
	untypedIn(t, env, "eq b120 b120", api.ErrBig)
	typedIn(t, sized(118), "eq b118 b118", "bool")
	typedIn(t, env, "(fun x -> fun y -> 1) b120 b120", "int")
	untypedIn(t, env, "fun x -> k (eq x b120)", api.ErrBig)
	typedIn(t, env, "k (fun x -> eq x b60)", "int")
	typedIn(t, sized(118), "k (fun x -> k (eq x b118))", "int")
	untypedIn(t, sized(119), "k (fun x -> k (eq x b119))", api.ErrBig)
}

func TestP4WhatTypingTellsFirst(t *testing.T) {
	env := sized(59, 60, 120)
	big, wrong := "(b60, b60)", "(1 1)"
	for _, around := range []string{"(FIRST, SECOND)", "FIRST SECOND", "if FIRST then SECOND else 1", "if true then FIRST else SECOND", "let x = FIRST in SECOND", "fun x -> (FIRST, fun y -> SECOND)"} {
		fill := func(first, second string) string {
			return strings.NewReplacer("FIRST", first, "SECOND", second).Replace(around)
		}
		untypedIn(t, env, fill(big, wrong), api.ErrBig)
		untypedIn(t, env, fill(wrong, big), api.ErrType)
	}
	untypedIn(t, env, "(b60, b60) 1", api.ErrBig)
	untypedIn(t, env, "(b59, b60) 1", api.ErrType)
	untypedIn(t, env, "1 (b60, b60)", api.ErrBig)
	untypedIn(t, env, "if 1 then (b60, b60) else 1", api.ErrType)
	untypedIn(t, env, "if (b60, b60) then 1 else 1", api.ErrBig)
	untypedIn(t, env, "if true then 1 else (b60, b60)", api.ErrBig)
	untypedIn(t, env, "eq 1 b120", api.ErrType)
}

func TestP4TheOneTextOfTheType(t *testing.T) {
	want := ""
	for k := range api.MaxDepth - 1 {
		want += standing(k) + " -> "
	}
	typed(t, strings.Repeat("fun x->", api.MaxDepth-1)+"x", want+standing(api.MaxDepth-2))
	typed(t, strings.Repeat("fun x->", api.MaxDepth-1)+"1", want+"int")
	typed(t, "fun f -> fun g -> f (g, fun x -> x) g", "((a, b -> b) -> a -> c) -> a -> c")
	typed(t, "fun f -> f (fun x -> fun y -> x)", "((a -> b -> a) -> c) -> c")
	typed(t, "fun x -> (fun y -> y, (x, fun z -> x))", "a -> (b -> b, (a, c -> a))")
	typed(t, "cons (fun x -> x)", "[a -> a] -> [a -> a]")
	typed(t, "fun x -> fun y -> eq (y, x)", "a -> b -> (b, a) -> bool")
}

func TestP4ErrorsOfShowAheadOfAll(t *testing.T) {
	env, long := given("X", "(", "b", ")"), strings.Repeat(" ", api.MaxText)
	for _, fuel := range []int{-1, 0, 1, api.MaxFuel, api.MaxFuel + 1} {
		for _, e := range []map[string]api.Typed{env, nil, usual()} {
			for _, src := range []string{"", "y (", "(x, y, z)", "f fun x -> x", "let rec f = 1 and f = 2 in 1", "abcdefghi", "1 1 $", "y" + long, nested(api.MaxDepth + 1), nested(api.MaxDepth+1) + ")"} {
				_, want := infer.Show(src)
				if got, err := infer.Infer(src, e, fuel); got != "" || want == nil || !sameError(err, want) {
					t.Errorf("Infer(%.60q) with the fuel %d = %q, %v, want %v", src, fuel, got, err, want)
				}
			}
		}
	}
	unbound(t, nil, nested(api.MaxDepth), 0, "f")
	typedIn(t, given("f", "a -> a", "x", "int"), nested(api.MaxDepth), "int")
	typedIn(t, given("y", "int"), "y"+long[1:], "int")
}

func TestP4Fuel(t *testing.T) {
	most := int(^uint(0) >> 1)
	for _, fuel := range []int{0, -1, -12, api.MaxFuel + 1, 1 << 31, 1<<32 + 1, most, -most - 1} {
		for _, src := range []string{"1", "y", "1 1"} {
			for _, env := range []map[string]api.Typed{nil, usual(), given("X", "(")} {
				if got, err := infer.Infer(src, env, fuel); got != "" || !errors.Is(err, api.ErrArg) {
					t.Errorf("Infer(%q) with the fuel %d = %q, %v", src, fuel, got, err)
				}
			}
		}
	}
	for fuel := 1; fuel <= api.MaxFuel; fuel++ {
		if got, err := infer.Infer("let i = fun x -> x in i i", nil, fuel); got != "a -> a" || err != nil {
			t.Errorf("with the fuel %d: %q, %v", fuel, got, err)
		}
	}
}

func TestP4NamesOfTheMap(t *testing.T) {
	for _, name := range []string{"fun", "let", "rec", "and", "in", "if", "then", "else", "", "X", "xY", "x ", " x", "x\n", "x y", "1", "1x", "12", "x_y", "x'", "(", "->", "=", "é", "xé", "x\x00", "\xff", "abcdefghi", "a12345678", "let rec", strings.Repeat("x", 5000)} {
		for _, typ := range []string{"int", "(", "", strings.Repeat(" ", 400)} {
			refusesName(t, given(name, typ), "1", name)
			refusesName(t, given(name, typ, "\xff\xff", "int"), "y", name)
			refusesName(t, given(name, typ, "a", "a", "zz", "b"), "1 1", name)
		}
	}
	for _, name := range []string{"x", "z9", "abcdefgh", "a1234567", "int", "bool", "lets", "funs", "in1", "recs", "of"} {
		typedIn(t, given(name, "[int]"), "("+name+", 1)", "([int], int)")
	}
}

func TestP4TypesOfTheMap(t *testing.T) {
	for _, typ := range []string{"", " ", "(", ")", "[]", "1", "a ->", "X", "a b", "(a, b, c)", "a - b", "abcdefghi", strings.Repeat("x", api.MaxText), strings.Repeat(" ", api.MaxText+1), strings.Repeat("x", 5000), listed(api.MaxSize + 1)} {
		refusesType(t, given("x", typ), "1", "x")
		refusesType(t, given("x", typ), "y", "x")
		refusesType(t, given("x", typ), "1 1", "x")
		refusesType(t, given("x", typ, "a", "int", "z", "int"), "x", "x")
	}
	typedIn(t, given("x", "a"+strings.Repeat(" ", api.MaxText-1)), "x", "a")
	typedIn(t, given("x", listed(api.MaxSize)), "x", listed(api.MaxSize))
}

func TestP4TheLeastNameOfTheMap(t *testing.T) {
	refusesType(t, given("c", ")", "b", "(", "x", "int"), "y", "b")
	refusesType(t, given("b1", ")", "b", "("), "y", "b")
	refusesType(t, given("z", ")", "abcdefgh", "("), "y", "abcdefgh")
	refusesType(t, given("a", ")", "let", "int"), "y", "a")
	refusesName(t, given("z", ")", "let", "int"), "y", "let")
	refusesName(t, given("a", ")", "", "int"), "y", "")
	refusesName(t, given("a", ")", "Z", "int"), "y", "Z")
	refusesName(t, given("a", ")", "9", "int"), "y", "9")
	refusesName(t, given("x", ")", "fun", "int", "if", "int", "let", "int"), "y", "fun")
	refusesName(t, given("\xff", "int", "é", "int"), "y", "é")
	env := map[string]api.Typed{}
	for k := range 2000 {
		env["n"+strconv.Itoa(k)] = api.Typed{Type: "int"}
	}
	typedIn(t, env, "n1999", "int")
	for k := 1999; k > 0; k -= 7 {
		env["n"+strconv.Itoa(k)] = api.Typed{Type: "[]"}
	}
	least := "n9999"
	for name, typ := range env {
		if typ.Type == "[]" {
			least = min(least, name)
		}
	}
	refusesType(t, env, "1", least)
}

func TestP4NamesThatStandForNothing(t *testing.T) {
	for _, c := range []struct {
		src  string
		at   int
		name string
	}{
		{"y", 0, "y"}, {" \n y", 3, "y"}, {"((y))", 2, "y"}, {"abcdefgh", 0, "abcdefgh"},
		{"fun x -> (x, z) y", 13, "z"}, {"(fun q -> q) q", 13, "q"}, {"fun x -> y", 9, "y"}, {"(fun x -> x, x)", 13, "x"},
		{"if fst then a else b", 12, "a"}, {"if c then a else b", 3, "c"}, {"if fst then fst else b", 21, "b"},
		{"let x = x in 1", 8, "x"}, {"let x = 1 in y", 13, "y"}, {"(let x = 1 in x, x)", 17, "x"}, {"let x = y in z", 8, "y"}, {"let x = let y = 1 in y in y", 26, "y"},
		{"fst y z", 4, "y"}, {"y z", 0, "y"}, {"fst (fst y) z", 9, "y"}, {"(y, z)", 1, "y"}, {"(1, z)", 4, "z"},
		{"let rec f = g and g = f in h", 27, "h"}, {"let rec f = h and g = i in j", 12, "h"}, {"let rec f = f and g = i in j", 22, "i"}, {"(let rec f = f in f, f)", 21, "f"}, {"let rec f = fun x -> g x and g = x in f", 33, "x"},
		{"let rec f = let rec g = h and h = f in g and i = g in 1", 49, "g"},
	} {
		unbound(t, usual(), c.src, c.at, c.name)
	}
	unbound(t, nil, "true", 0, "true")
	unbound(t, given(), "fun x -> add x", 9, "add")
	unbound(t, given("x", "int"), "x1", 0, "x1")
}

func TestP4NamesAheadOfTypes(t *testing.T) {
	unbound(t, usual(), "(1 1, y)", 6, "y")
	unbound(t, usual(), "if 1 then 1 else y", 17, "y")
	unbound(t, usual(), "fun x -> x x y", 13, "y")
	unbound(t, sized(60), "((b60, b60), y)", 13, "y")
	unbound(t, sized(60), "let x = (b60, b60) in y", 22, "y")
	refusesType(t, given("q", "("), "y", "q")
}

func TestP1InferOnlyReadsTheMap(t *testing.T) {
	for _, src := range []string{"1", "fst", "fun add -> add true", "let true = 1 in true", "y", "1 1", "let rec f = f in f", "("} {
		env := usual()
		infer.Infer(src, env, 3)
		if !maps.Equal(env, usual()) {
			t.Errorf("Infer(%q) leaves the map as %v", src, env)
		}
	}
	wrong := given("let", "(", "X", "int", "", "")
	infer.Infer("1", wrong, 3)
	if !maps.Equal(wrong, given("let", "(", "X", "int", "", "")) {
		t.Errorf("a map of wrong names is left as %v", wrong)
	}
}

func TestP1InferWithoutAMap(t *testing.T) {
	for _, env := range []map[string]api.Typed{nil, {}} {
		typedIn(t, env, "fun x -> (x, 1)", "a -> (a, int)")
		unbound(t, env, "x", 0, "x")
		untypedIn(t, env, "1 1", api.ErrType)
		if env != nil && len(env) > 0 {
			t.Errorf("the empty map is %v", env)
		}
	}
}

func TestP1NothingIsKeptOfAMap(t *testing.T) {
	env := given("x", "int")
	typedIn(t, env, "x", "int")
	env["x"] = api.Typed{Type: "[a]"}
	typedIn(t, env, "(x, x)", "([a], [b])")
	delete(env, "x")
	unbound(t, env, "x", 0, "x")
}

func TestP1WhatInferTellsIsNewMemory(t *testing.T) {
	src, name := strings.Clone("(1, abc)"), strings.Clone("Abc")
	_, err := infer.Infer(src, nil, 1)
	var u *api.UnboundError
	if !errors.As(err, &u) || shared(u.Name, src) {
		t.Errorf("%v: the name is a piece of the text", err)
	}
	_, err = infer.Infer("1", map[string]api.Typed{name: {Type: "int"}}, 1)
	var e *api.EnvError
	if !errors.As(err, &e) || shared(e.Name, name) {
		t.Errorf("%v: the name is the map's", err)
	}
	typ, wrong := strings.Clone("int"), strings.Clone("abc")
	if got, err := infer.Infer("x", map[string]api.Typed{"x": {Type: typ}}, 1); err != nil || shared(got, typ) {
		t.Errorf("%q, %v is a piece of the map's text", got, err)
	}
	_, err = infer.Infer("1", map[string]api.Typed{wrong: {Type: "("}}, 1)
	if !errors.As(err, &e) || shared(e.Name, wrong) {
		t.Errorf("%v: the name is the map's", err)
	}
}
