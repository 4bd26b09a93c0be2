package infer_test

import (
	"errors"
	"slices"
	"strings"
	"testing"

	"schemes/api"
	"schemes/infer"
)

// growth: a way in which a type is made of another: the type of d, and what the text of d x's type is by that of x's.
type growth struct {
	typ  string
	next func(text string) string
}

func pairOf(x, y string) string { return "(" + x + ", " + y + ")" }

// arrowOf: of a left side that is an arrow itself, or is none.
func arrowOf(x, y string) string {
	depth := 0
	for k := range len(x) {
		switch {
		case strings.IndexByte("([", x[k]) >= 0:
			depth++
		case strings.IndexByte(")]", x[k]) >= 0:
			depth--
		case depth == 0 && strings.HasPrefix(x[k:], " -> "):
			return "(" + x + ") -> " + y
		}
	}
	return x + " -> " + y
}

// fourTimes: a way to make the text of a type of another, gone four times.
func fourTimes(way func(string) string) func(string) string {
	return func(text string) string {
		for range 4 {
			text = way(text)
		}
		return text
	}
}

func growths() map[string]growth {
	return map[string]growth{
		"pairs":  {"a->((((a,a),(a,a)),((a,a),(a,a))),(((a,a),(a,a)),((a,a),(a,a))))", fourTimes(func(x string) string { return pairOf(x, x) })},
		"arrows": {"a->(((a->a)->a->a)->(a->a)->a->a)->((a->a)->a->a)->(a->a)->a->a", fourTimes(func(x string) string { return arrowOf(x, x) })},
		"lists":  {"a->(([([(a,[a])],[a])],[a]),a->[a])", listsAndOthers},
	}
}

// listsAndOthers: what the type of the growth by lists makes of a text.
func listsAndOthers(x string) string {
	list := "[" + x + "]"
	inner := "[" + pairOf(x, list) + "]"
	return pairOf(pairOf("["+pairOf(inner, list)+"]", list), arrowOf(x, list))
}

// grown: an expression with a group of f and k; in the body of k so many names of funs, from a on, are found to be each of the type that d makes of the next one's.
func grown(body string, steps int) string {
	names := strings.Split("abcghijlm", "")[:steps+1]
	ties := "0"
	for k := steps - 1; k >= 0; k-- {
		ties = "s(e " + names[k] + "(d " + names[k+1] + "))(" + ties + ")"
	}
	return "fun " + strings.Join(names, "->fun ") + "->let rec f=" + body + " and k=" + ties + " in f"
}

func growing(by growth) map[string]api.Typed {
	return given("d", by.typ, "e", "a->a->int", "s", "a->b->b")
}

// tellsThenBig: that just one round of f and k is told, with that scheme of f; that it may be stopped; and that else the second is too big.
func tellsThenBig(t *testing.T, src string, env map[string]api.Typed, want string) {
	t.Helper()
	for _, goOn := range []bool{true, false} {
		calls := 0
		typ, err := infer.Watch(src, env, 3, func(names []string, round int, schemes []string) bool {
			calls++
			if !slices.Equal(names, []string{"f", "k"}) || round != 1 {
				t.Errorf("Watch(%q) tells of round %d of %q", src, round, names)
			}
			// They are too long to be shown.
			if len(schemes) != 2 || schemes[0] != want || schemes[1] != "int" {
				t.Errorf("Watch(%q) tells other schemes", src)
			}
			return goOn
		})
		wanted := api.ErrStopped
		if goOn {
			wanted = api.ErrBig
		}
		if calls != 1 || typ != "" || !errors.Is(err, wanted) {
			t.Errorf("Watch(%q) = %d bytes, %v behind %d rounds", src, len(typ), err, calls)
		}
	}
}

func TestP6SchemesOfAllSizesAreTold(t *testing.T) {
	for _, by := range growths() {
		env, text := growing(by), "_a"
		for steps := 1; len(text) < 10_000_000; steps++ {
			text = by.next(text)
			if steps > 2 {
				tellsThenBig(t, grown("a", steps), env, text)
			}
		}
	}
}

func TestP6ABigSchemeBesideOthers(t *testing.T) {
	// What is told of variables is the same at all sizes: which names they have, and in which order.
	for _, by := range growths() {
		env := growing(by)
		for steps := 3; steps <= 4; steps++ {
			// on: the text of a's type, by that of the last name's.
			on := func(text string) string {
				for range steps {
					text = by.next(text)
				}
				return text
			}
			tellsThenBig(t, grown("(a,1)", steps), env, pairOf(on("_a"), "int"))
			tellsThenBig(t, grown("fun x->(x,a)", steps), env, arrowOf("a", pairOf("a", on("_a"))))
			tellsThenBig(t, grown("fun x->fun y->(a,(y,x))", steps), env, arrowOf("a", arrowOf("b", pairOf(on("_a"), pairOf("b", "a")))))
			tellsThenBig(t, "fun o->"+grown("(o,(a,o))", steps), env, pairOf("_a", pairOf(on("_b"), "_a")))
			tellsThenBig(t, "fun o->"+grown("(a,(o,a))", steps), env, pairOf(on("_a"), pairOf("_b", on("_a"))))
		}
	}
}

func TestP6SeveralBigSchemesInOneRound(t *testing.T) {
	by := growths()["pairs"]
	four := by.next(by.next(by.next(by.next("_a"))))
	five := by.next(four)
	src := "fun o->" + grown("a and x=(b,o) and y=a and z=o", 5)
	var told [][]string
	typ, err := infer.Watch(src, growing(by), 3, func(names []string, round int, schemes []string) bool {
		told = append(told, schemes)
		return true
	})
	if typ != "" || !errors.Is(err, api.ErrBig) || len(told) != 1 {
		t.Fatalf("Watch(%q) = %d bytes, %v behind %d rounds", src, len(typ), err, len(told))
	}
	if !slices.Equal(told[0], []string{five, pairOf(four, "_b"), five, "_b", "int"}) {
		t.Errorf("Watch(%q) tells other schemes", src)
	}
}
