package infer_test

import (
	"maps"
	"math/rand"
	"slices"
	"strconv"
	"strings"
	"testing"

	"schemes/api"
	"schemes/infer"
)

// roundText: what is told of a round, in one text.
func roundText(names []string, round int, schemes []string) string {
	return strings.Join(names, " ") + " " + strconv.Itoa(round) + ": " + strings.Join(schemes, "; ")
}

// watched: Watch with a watcher that spoils what it is told, and answers false at the stop-th round (0: never).
func watched(src string, env map[string]api.Typed, fuel, stop int) (typ string, rounds []string, err error) {
	typ, err = infer.Watch(src, env, fuel, func(names []string, round int, schemes []string) bool {
		rounds = append(rounds, roundText(names, round, schemes))
		for k := range names {
			names[k] = "mine"
		}
		for k := range schemes {
			schemes[k] = "mine"
		}
		return len(rounds) != stop
	})
	return typ, rounds, err
}

// group: by the document's words, in the plainest way.
func (m *model) group(e node, names map[string]modelScheme) tree {
	group := strings.Fields(e.name)
	ahead := make([]modelScheme, len(group))
	for k := range group {
		v := m.fresh()
		ahead[k] = modelScheme{[]string{v.head}, v}
	}
	for round := 1; ; round++ {
		within := maps.Clone(names)
		for k, g := range group {
			within[g] = ahead[k]
		}
		bodies := make([]tree, len(group))
		for k := range group {
			bodies[k] = m.typ(e.below[k], within)
		}
		next := make([]modelScheme, len(group))
		for k, x := range bodies {
			next[k] = m.scheme(x, names)
		}
		m.tell(group, round, next)
		last := slices.Equal(m.texts(ahead, own), m.texts(next, own))
		ahead = next
		if last {
			break
		}
		if round == m.fuel {
			panic(api.ErrFuel)
		}
	}
	within := maps.Clone(names)
	for k, g := range group {
		within[g] = ahead[k]
	}
	return m.typ(e.below[len(group)], within)
}

func (m *model) tell(group []string, round int, schemes []modelScheme) {
	var seen []string
	m.rounds = append(m.rounds, roundText(group, round, m.texts(schemes, func(name string) string {
		k := slices.Index(seen, name)
		if k < 0 {
			k, seen = len(seen), append(seen, name)
		}
		return "_" + standing(k)
	})))
	if len(m.rounds) == m.stop {
		panic(api.ErrStopped)
	}
}

// texts: with what has been found out by now; bound says how variables are written that do not stand for any type.
func (m *model) texts(schemes []modelScheme, bound func(string) string) []string {
	var texts []string
	for _, s := range schemes {
		var seen []string
		texts = append(texts, m.now(s.of).text(func(name string) string {
			if !slices.Contains(s.general, name) {
				return bound(name)
			}
			k := slices.Index(seen, name)
			if k < 0 {
				k, seen = len(seen), append(seen, name)
			}
			return standing(k)
		}))
	}
	return texts
}

// everyGroup: by their number of parts, up to that one, all expressions over those leaves, with lets rec among them; all that are bound are x or y. (The t of a choice does not count.)
func everyGroup(most int, leaves []node) [][]node {
	all := [][]node{nil, leaves}
	for parts := 2; parts <= most; parts++ {
		var these []node
		for _, b := range all[parts-1] {
			these = append(these, node{"fun", "x", []node{b}}, node{"fun", "y", []node{b}})
		}
		for k := 1; k < parts-1; k++ {
			for _, a := range all[k] {
				for _, b := range all[parts-1-k] {
					two := []node{a, b}
					these = append(these, node{"()", "", two}, node{",", "", two}, node{"let", "x", two}, node{"rec", "x", two}, node{"rec", "y", two}, node{"if", "", []node{name("t"), a, b}})
				}
			}
		}
		all = append(all, append(these, everyTwo(all)...))
	}
	return all
}

// everyTwo: all groups of x and y that are made of those, and have one part more than they could have.
func everyTwo(all [][]node) []node {
	var groups []node
	for k := 1; k < len(all); k++ {
		for l := 1; k+l < len(all)-1; l++ {
			for _, a := range all[k] {
				for _, b := range all[l] {
					for _, c := range all[len(all)-1-k-l] {
						groups = append(groups, node{"rec", "x y", []node{a, b, c}})
					}
				}
			}
		}
	}
	return groups
}

func TestP5EverySmallExpression(t *testing.T) {
	env := map[string]tree{"t": leaf("bool")}
	seen := map[string]int{}
	check := func(e node) {
		seen[agrees(t, e, env, handed(env), 5, 40)]++
	}
	all := everyGroup(6, []node{name("x"), name("y"), {head: "number", name: "1"}})
	for _, e := range slices.Concat(all...) {
		check(node{"fun", "x", []node{{"fun", "y", []node{e}}}})
	}
	for _, e := range slices.Concat(all[:6]...) {
		check(node{"fun", "y", []node{{"rec", "x", []node{e, name("x")}}}})
		check(node{"fun", "x", []node{{"rec", "x y", []node{e, name("x"), name("y")}}}})
		check(node{"rec", "x y", []node{name("y"), e, name("x")}})
		check(node{"rec", "x", []node{{"fun", "y", []node{e}}, name("x")}})
	}
	for _, err := range []error{nil, api.ErrType, api.ErrFuel, api.ErrBig} {
		if seen[told(err)] < 100 {
			t.Errorf("too few of a kind: %v", seen)
		}
	}
}

func TestP5ExpressionsMadeAtRandom(t *testing.T) {
	env := library()
	m := scoper{maker{rand.New(rand.NewSource(5))}, slices.Sorted(maps.Keys(env)), 3}
	seen := map[string]int{}
	for range 20000 {
		e := m.group(4+m.Intn(28), nil)
		if m.Intn(2) == 0 {
			e = node{"fun", "z", []node{m.group(4+m.Intn(28), []string{"z"})}}
		}
		seen[agrees(t, e, env, handed(env), 1+m.Intn(api.MaxFuel), 1+m.Intn(60))]++
	}
	for _, err := range []error{nil, api.ErrType, api.ErrBig, api.ErrFuel, api.ErrStopped} {
		if seen[told(err)] < 80 {
			t.Errorf("too few of a kind: %s: %d", told(err), seen[told(err)])
		}
	}
}

func TestP6SchemesThatGrowBehindTheirBodies(t *testing.T) {
	// Each of a, b, c, d may be found out to be made of the next one, in any order, while x, y and z have types of theirs.
	v := leaf("v")
	two := tree{",", []tree{v, v}}
	four := tree{",", []tree{two, two}}
	env := map[string]tree{"e": arrow(tree{",", []tree{four, four}}, arrow(v, leaf("int"))), "p": arrow(two, arrow(v, leaf("int"))), "s": arrow(v, arrow(leaf("vu"), leaf("vu"))), "t": leaf("bool")}
	m := scoper{maker{rand.New(rand.NewSource(6))}, nil, 0}
	params := []string{"a", "b", "c", "d"}
	apply := func(f, x, y node) node { return node{"()", "", []node{{"()", "", []node{f, x}}, y}} }
	body := func() node {
		x := name(m.pick([]string{"a", "a", "b", "b", "c", "d", "x", "y", "z", "t"}))
		for range m.Intn(4) {
			k := m.Intn(3)
			x = apply(name("s"), apply(name(m.pick([]string{"e", "e", "p"})), name(params[k]), name(params[k+1])), x)
		}
		return x
	}
	big := 0
	for range 4000 {
		e := node{"rec", "x y z", []node{name(m.pick(params)), body(), body(), body()}}
		for k := range params {
			e = node{"fun", params[len(params)-1-k], []node{e}}
		}
		agrees(t, e, env, handed(env), 4, 0)
		if _, _, _, rounds := answer(e, env, 4, 0); slices.ContainsFunc(rounds, func(r string) bool { return len(r) > 1000 }) {
			big++
		}
	}
	if big < 20 {
		t.Errorf("too few big ones: %d", big)
	}
}

func TestP1RoundsOfTypesTooBigToBeGoneThrough(t *testing.T) {
	env := usual()
	env["e"] = api.Typed{Type: tower("a", 40) + " -> a -> int"}
	env["s"] = api.Typed{Type: "a -> b -> b"}
	// Of two names next to each other the first is a tower of the second.
	ties := func(by, names string) string {
		text := ""
		for k := range len(names) - 1 {
			text += "s(" + by + " " + names[k:k+1] + " " + names[k+1:k+2] + ")("
		}
		return text + "1" + strings.Repeat(")", len(names)-1)
	}
	// With five ties a text is told that has many hundred million bytes, which is left to those who have the memory; with six or more it is longer than any that is made.
	for _, count := range []int{2, 3, 4, 5, 7, 8, 9} {
		names := "abcdfgijk"[:count]
		funs := ""
		for k := range count {
			funs += "fun " + names[k:k+1] + "->"
		}
		for _, group := range []string{
			"let rec x=a and y=" + ties("e", names) + " in 1", "let rec x=(a,(a,fun z->b)) and y=" + ties("e", names) + " in x", "let rec y=" + ties("e", names) + " and x=1 in 1",
			"let rec x=(a,fun z->b) and h=e and y=" + ties("h", names) + " in 1 1", "let rec o=(let rec x=a and h=e and y=" + ties("h", names) + " in 1) in 1 1",
			"let rec o=(let rec x=a in 1) and h=e and y=" + ties("h", names) + " in o",
		} {
			for _, fuel := range []int{1, 2, 12} {
				ends(t, funs+group, func() { inferHolds(t, funs+group, env, fuel) })
			}
		}
	}
	ends(t, "the last round", func() {
		untypedIn(t, env, "fun a->fun b->fun c->fun d->fun f->fun g->let rec x=(a,fun z->b) and h=e and y="+ties("h", "abcdfg")+" in 1 1", api.ErrType)
	})
}

func TestP1GroupsWithinGroups(t *testing.T) {
	nest := func(count int, ahead, within, behind string) string {
		return strings.Repeat(ahead, count) + within + strings.Repeat(behind, count)
	}
	for count := range 10 {
		for _, within := range []string{"1", "f", "fun x->x", "fun x->f", "x", "(f,1)", "1 1", ""} {
			inferHolds(t, nest(count, "let rec f=", within, " in f"), usual(), 2)
			inferHolds(t, "fun x->"+nest(count, "let rec f=", within, " in f"), usual(), 3)
			inferHolds(t, nest(min(count, 6), "let rec f=g and g=", within, " in f"), usual(), 3)
			inferHolds(t, nest(count, "let rec f=1 in ", within, ""), usual(), 2)
		}
	}
	ends(t, "as many groups as a text has", func() {
		typed(t, nest(18, "let rec f=", "1", " in f"), "int")
		typed(t, nest(18, "let rec f=", "fun x->x", " in f"), "a -> a")
		typed(t, nest(11, "let rec f=g and g=", "1", " in f"), "int")
	})
}
