package infer_test

import (
	"errors"
	"maps"
	"strconv"
	"strings"
	"testing"
	"unsafe"

	"schemes/api"
	"schemes/infer"
)

// stands: that Instance answers a map of just these: a name, a type, a name, a type ..
func stands(t *testing.T, general, special string, pairs ...string) {
	t.Helper()
	want := map[string]api.Typed{}
	for k := 0; k < len(pairs); k += 2 {
		want[pairs[k]] = api.Typed{Type: pairs[k+1]}
	}
	got, err := infer.Instance(general, special)
	if got == nil || !maps.Equal(got, want) || err != nil {
		t.Errorf("Instance(%q, %q) = %v, %v, want %v", general, special, got, err, want)
	}
}

// instanceFails: that Instance answers that error and no map.
func instanceFails(t *testing.T, general, special string, want error) {
	t.Helper()
	if got, err := infer.Instance(general, special); got != nil || !errors.Is(err, want) {
		t.Errorf("Instance(%.60q, %.60q) = %v, %v, want %v", general, special, got, err, want)
	}
}

// instanceBreaks: that Instance answers a *SyntaxError at that place, and no map.
func instanceBreaks(t *testing.T, general, special string, at int) {
	t.Helper()
	got, err := infer.Instance(general, special)
	var s *api.SyntaxError
	if got != nil || !errors.As(err, &s) || s.At != at {
		t.Errorf("Instance(%.60q, %.60q) = %v, %v, want a syntax error at %d", general, special, got, err, at)
	}
}

func TestP3InstancesOfTheDocument(t *testing.T) {
	stands(t, "a -> b -> [a]", "(x, y) -> int -> [(x, y)]", "a", "(x, y)", "b", "int")
	instanceFails(t, "a -> a", "int -> bool", api.ErrNot)
	stands(t, "int", "int")
}

func TestP3WhatVariablesStandFor(t *testing.T) {
	stands(t, "a", "int", "a", "int")
	stands(t, "a", "a", "a", "a")
	stands(t, "a", "b", "a", "b")
	stands(t, "abcdefgh", "[z9]", "abcdefgh", "[z9]")
	stands(t, "let", "fun", "let", "fun")
	stands(t, "a -> b", "b -> a", "a", "b", "b", "a")
	stands(t, "a -> b", "q -> q", "a", "q", "b", "q")
	stands(t, "a -> b", "b -> [b]", "a", "b", "b", "[b]")
	stands(t, "a", "[a]", "a", "[a]")
	stands(t, "a -> a", "(a -> a) -> a -> a", "a", "a -> a")
	stands(t, "a -> b", "x -> y -> z", "a", "x", "b", "y -> z")
	stands(t, "(a, b)", "((x, y), z)", "a", "(x, y)", "b", "z")
	stands(t, "[a]", "[[b]]", "a", "[b]")
	stands(t, "(a -> b) -> [a] -> [b]", "((x, y) -> int) -> [(x, y)] -> [int]", "a", "(x, y)", "b", "int")
	stands(t, "((a, b), (b, a))", "((int, [c]), ([c], int))", "a", "int", "b", "[c]")
}

func TestP3SpecialsOwnNames(t *testing.T) {
	stands(t, "a -> b", "zz->((q,p)->[ q ])", "a", "zz", "b", "(q, p) -> [q]")
	stands(t, "a", "((q->p))->((q))", "a", "(q -> p) -> q")
	stands(t, "x -> y -> z", "then -> abcdefgh -> a1", "x", "then", "y", "abcdefgh", "z", "a1")
	stands(t, "(x, y)", "(b, a)", "x", "b", "y", "a")
}

func TestP3InstancesWithoutVariables(t *testing.T) {
	stands(t, "bool", "bool")
	stands(t, "[int]", "[ (int) ]")
	stands(t, "int -> (bool, [int])", "int->(bool,[int])")
	stands(t, "(int -> int) -> bool", "(int -> int) -> bool")
}

func TestP3NoInstances(t *testing.T) {
	type text struct{ kind, text string }
	specials := []text{{"int", "int"}, {"bool", "bool"}, {"variable", "x"}, {"list", "[x]"}, {"list", "[int]"}, {"pair", "(x, y)"}, {"pair", "(int, bool)"}, {"arrow", "x -> y"}, {"arrow", "int -> bool"}}
	for _, g := range []text{{"int", "int"}, {"bool", "bool"}, {"list", "[a]"}, {"pair", "(a, b)"}, {"arrow", "a -> b"}} {
		for _, s := range specials {
			if g.kind == s.kind {
				continue
			}
			instanceFails(t, g.text, s.text, api.ErrNot)
			instanceFails(t, "["+g.text+"]", "["+s.text+"]", api.ErrNot)
			instanceFails(t, "("+g.text+", c)", "("+s.text+", c)", api.ErrNot)
			instanceFails(t, "(c, "+g.text+")", "(c, "+s.text+")", api.ErrNot)
			instanceFails(t, "("+g.text+") -> c", "("+s.text+") -> c", api.ErrNot)
			instanceFails(t, "c -> "+g.text, "c -> "+s.text, api.ErrNot)
		}
	}
	instanceFails(t, "int", "a", api.ErrNot)
	instanceFails(t, "[int]", "[bool]", api.ErrNot)
	instanceFails(t, "a -> b -> c", "a -> b", api.ErrNot)
	instanceFails(t, "(a -> b) -> c", "a -> b -> c", api.ErrNot)
}

func TestP3OneVariableAsTwoTypes(t *testing.T) {
	for _, two := range [][2]string{{"int", "bool"}, {"x", "y"}, {"x", "int"}, {"int", "x"}, {"[x]", "[y]"}, {"[x]", "x"}, {"(x, y)", "(y, x)"}, {"[x -> y]", "[x -> x]"}, {"(int, bool)", "[int]"}} {
		x, y := two[0], two[1]
		instanceFails(t, "a -> a", x+" -> "+y, api.ErrNot)
		instanceFails(t, "(a, a)", "("+x+", "+y+")", api.ErrNot)
		instanceFails(t, "a -> b -> a", x+" -> "+x+" -> "+y, api.ErrNot)
		instanceFails(t, "(a, [(b, [a])])", "("+x+", [("+y+", ["+y+"])])", api.ErrNot)
		stands(t, "a -> a", x+" -> "+x, "a", x)
		stands(t, "a -> b", x+" -> "+y, "a", x, "b", y)
	}
	instanceFails(t, "a -> a", "(x -> y) -> x -> z", api.ErrNot)
	stands(t, "a -> a", "((x)->y) -> (x -> (y))", "a", "x -> y")
}

func TestP3ErrorOfGeneralAheadOfSpecials(t *testing.T) {
	long, big := strings.Repeat(" ", api.MaxText+1), listed(api.MaxSize+1)
	instanceBreaks(t, "(", ")", 1)
	instanceBreaks(t, "a", ")", 0)
	instanceBreaks(t, "a ->", long, 4)
	instanceBreaks(t, "a ->", big, 4)
	instanceFails(t, long, ")", api.ErrLong)
	instanceFails(t, big, ")", api.ErrBig)
	instanceFails(t, long, big, api.ErrLong)
	instanceFails(t, big, long, api.ErrBig)
	instanceFails(t, "a", long, api.ErrLong)
	instanceFails(t, "a", big, api.ErrBig)
	instanceFails(t, "int", big, api.ErrBig)
	instanceBreaks(t, "int", "bool 1", 5)
	instanceBreaks(t, "", "", 0)
	instanceBreaks(t, "int", "", 0)
	instanceBreaks(t, " ", "int", 1)
}

func TestP3InstancesAtTheEdge(t *testing.T) {
	stands(t, "a", listed(api.MaxSize), "a", listed(api.MaxSize))
	stands(t, listed(api.MaxSize), listed(api.MaxSize), "a", "a")
	instanceFails(t, listed(api.MaxSize), listed(api.MaxSize-1), api.ErrNot)
	text := strings.TrimSuffix(strings.Repeat("bool->", 50), "->")
	stands(t, "x", text, "x", strings.ReplaceAll(text, "->", " -> "))
	full := "x" + strings.Repeat(" ", api.MaxText-1)
	stands(t, full, full, "x", "x")
	var general, special, want []string
	for k := range api.MaxSize / 2 {
		g, s := "g"+strconv.Itoa(k), "s"+strconv.Itoa(k)
		general, special, want = append(general, g), append(special, s), append(want, g, s)
	}
	stands(t, strings.Join(general, "->"), strings.Join(special, "->"), want...)
}

func TestP1TheMapIsTheCallers(t *testing.T) {
	for _, c := range []struct {
		general, special string
		want             []string
	}{{"int", "int", nil}, {"a -> b", "x -> [y]", []string{"a", "x", "b", "[y]"}}} {
		first, _ := infer.Instance(c.general, c.special)
		second, _ := infer.Instance(c.general, c.special)
		kept := maps.Clone(second)
		clear(first)
		first["mine"] = api.Typed{Type: "mine"}
		if !maps.Equal(second, kept) {
			t.Errorf("Instance(%q, %q): a map that was handed out is shared: %v", c.general, c.special, second)
		}
		stands(t, c.general, c.special, c.want...)
	}
}

// shared: whether the piece lies in the memory of the text.
func shared(piece, text string) bool {
	at, from := uintptr(unsafe.Pointer(unsafe.StringData(piece))), uintptr(unsafe.Pointer(unsafe.StringData(text)))
	return from <= at && at < from+uintptr(len(text))
}

func TestP1AnswersAreNewMemory(t *testing.T) {
	general, special := strings.Clone("abc -> [xyz]"), strings.Clone("pqr -> [int]")
	m, err := infer.Instance(general, special)
	if len(m) != 2 || err != nil {
		t.Fatalf("Instance(%q, %q) = %v, %v", general, special, m, err)
	}
	for name, as := range m {
		if shared(name, general) || shared(as.Type, special) {
			t.Errorf("%q or %q is a piece of an argument", name, as.Type)
		}
	}
	for _, typ := range []string{"int", "bool", "(int)"} {
		typ = strings.Clone(typ)
		if text, err := infer.Canon(typ); shared(text, typ) || err != nil {
			t.Errorf("Canon(%q) is a piece of its argument", typ)
		}
	}
	for _, src := range []string{"abc", "123", "(abc)"} {
		src = strings.Clone(src)
		if text, err := infer.Show(src); shared(text, src) || err != nil {
			t.Errorf("Show(%q) is a piece of its argument", src)
		}
	}
}
