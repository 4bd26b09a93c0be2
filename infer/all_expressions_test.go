package infer_test

import (
	"errors"
	"maps"
	"math/rand"
	"slices"
	"strconv"
	"strings"
	"sync"
	"testing"
	"time"

	"schemes/api"
	"schemes/infer"
)

// told: what an error says to those who ask it, and not where it lies.
func told(err error) string {
	var s *api.SyntaxError
	var u *api.UnboundError
	var e *api.EnvError
	switch {
	case err == nil:
		return ""
	case errors.As(err, &e):
		return "the map's " + e.Name + ": " + told(e.Why)
	case errors.As(err, &s):
		return "syntax at " + strconv.Itoa(s.At)
	case errors.As(err, &u):
		return u.Name + " at " + strconv.Itoa(u.At)
	}
	for _, known := range []error{api.ErrLong, api.ErrDeep, api.ErrArg, api.ErrType, api.ErrBig, api.ErrFuel, api.ErrStopped} {
		if errors.Is(err, known) {
			return known.Error()
		}
	}
	return "no error of the document: " + err.Error()
}

// inferHolds: what is true of Infer, and of Watch, at all texts, maps and numbers whatever.
func inferHolds(t *testing.T, src string, env map[string]api.Typed, fuel int) {
	t.Helper()
	before := maps.Clone(env)
	got, err := infer.Infer(src, env, fuel)
	again, errAgain := infer.Infer(src, before, fuel)
	if got != again || told(err) != told(errAgain) {
		t.Errorf("Infer(%q) answers %q, %v and then %q, %v", src, got, err, again, errAgain)
	}
	if !maps.Equal(env, before) {
		t.Errorf("Infer(%q) makes %v of the map %v", src, env, before)
	}
	if (got == "") != (err != nil) || strings.HasPrefix(told(err), "no error") {
		t.Errorf("Infer(%q) = %q beside %v", src, got, err)
	}
	watchHolds(t, src, env, fuel, got, err)
	if !maps.Equal(env, before) {
		t.Errorf("Watch(%q) makes %v of the map %v", src, env, before)
	}
	_, errShow := infer.Show(src)
	switch {
	case errShow != nil && told(err) != told(errShow):
		t.Errorf("Infer(%q): %v, but Show: %v", src, err, errShow)
	case errShow == nil && (fuel < 1 || fuel > api.MaxFuel) != (told(err) == api.ErrArg.Error()):
		t.Errorf("Infer(%q) with the fuel %d: %v", src, fuel, err)
	case err == nil && len(got) <= api.MaxText:
		if text, err := infer.Canon(got); text != got || err != nil {
			t.Errorf("Infer(%q) = %q, of which Canon is %q, %v", src, got, text, err)
		}
	}
}

// watchHolds: with a watcher that stops nothing Watch answers as Infer does; one that does is called no more.
func watchHolds(t *testing.T, src string, env map[string]api.Typed, fuel int, typ string, errInfer error) {
	t.Helper()
	got, rounds, err := watched(src, env, fuel, 0)
	if got != typ || told(err) != told(errInfer) {
		t.Errorf("Watch(%q, .., %d) = %q, %v, but Infer: %q, %v", src, fuel, got, err, typ, errInfer)
	}
	for _, stop := range []int{1, len(rounds)} {
		if len(rounds) == 0 {
			break
		}
		got, seen, err := watched(src, env, fuel, stop)
		if got != "" || told(err) != api.ErrStopped.Error() || !slices.Equal(seen, rounds[:stop]) {
			t.Errorf("Watch(%q, .., %d) stopped at %d = %q, %v with %q", src, fuel, stop, got, err, seen)
		}
	}
}

func TestP1InferAtEveryShortText(t *testing.T) {
	env := given("x", "a", "y", "a -> a", "t", "bool")
	check := func(src string) { inferHolds(t, src, env, 2) }
	eachRow([]string{"x", "1", "(", ")", ",", "-", ">", "=", " ", "\n", "$"}, 3, "", check)
	eachRow([]string{"fun ", "let ", "rec ", "and ", "in ", "if ", "then ", "else ", "x ", "y ", "z ", "1 ", "-> ", "= ", "( ", ") ", ", "}, 3, "", check)
	eachRow([]string{"x ", "y ", "1 ", "( ", ") ", ", "}, 6, "", check)
}

func TestP1InferAtWrongTexts(t *testing.T) {
	for c := range 256 {
		b := string([]byte{byte(c)})
		for _, n := range []int{1, 2, api.MaxName, api.MaxText, api.MaxText + 1, 100000} {
			inferHolds(t, strings.Repeat(b, n), usual(), 1)
			inferHolds(t, "1", given(strings.Repeat(b, n), "int"), 1)
			inferHolds(t, "1", given("x", strings.Repeat(b, n)), 1)
		}
	}
	for _, piece := range []string{"(", "fun x->", "let x=", "let rec f=", "if ", "x(", "(x,", "let x=1 in "} {
		for n := range 310 {
			inferHolds(t, strings.Repeat(piece, n)+"x", usual(), 1)
			inferHolds(t, strings.Repeat(piece, n)+"x"+strings.Repeat(")", n), given("x", "a"), 1)
		}
	}
}

func TestP1InferAtAllNumbers(t *testing.T) {
	for fuel := -30; fuel < 30; fuel++ {
		for _, src := range []string{"1", "y", "1 1", "(", "let rec f = f in f", "let rec f = g and g = 1 in f", "let rec f = fun x -> f in f"} {
			inferHolds(t, src, nil, fuel)
			inferHolds(t, src, given("X", "("), fuel)
		}
	}
}

func TestP1ManyAsksOfOneMapAtOnce(t *testing.T) {
	env := usual()
	var all sync.WaitGroup
	for range 8 {
		all.Add(1)
		go func() {
			defer all.Done()
			for range 100 {
				typedIn(t, env, "fun x -> cons (x, nil) nil", "a -> [(a, [b])]")
				typedIn(t, env, "let i = fun x -> x in (i 1, i true)", "(int, bool)")
				untypedIn(t, env, "fun x -> x x", api.ErrType)
				unbound(t, env, "(1, y)", 4, "y")
			}
		}()
	}
	all.Wait()
}

// ends: that it ends soon, however big the types are that come up.
func ends(t *testing.T, what string, work func()) {
	t.Helper()
	done := make(chan int)
	go func() {
		defer close(done)
		work()
	}()
	select {
	case <-done:
	case <-time.After(20 * time.Second):
		t.Fatalf("%s: it does not end", what)
	}
}

// tower: x so many times in pairs.
func tower(x string, leaves int) string {
	return strings.Repeat("("+x+",", leaves-1) + x + strings.Repeat(")", leaves-1)
}

func TestP1TypesTooBigToBeGoneThrough(t *testing.T) {
	env := usual()
	env["e"] = api.Typed{Type: tower("a", 40) + " -> a -> int"}
	env["p"] = api.Typed{Type: "(a, a)"}
	// Of two names next to each other the first is a tower of the second.
	rows := func(names string) string {
		text := ""
		for k := range len(names) - 1 {
			text += "(e " + names[k:k+1] + " " + names[k+1:k+2] + ","
		}
		return text + "1" + strings.Repeat(")", len(names)-1)
	}
	funs := func(names string) string {
		text := ""
		for k := range len(names) {
			text += "fun " + names[k:k+1] + "->"
		}
		return text
	}
	ends(t, "a tower of towers", func() {
		untypedIn(t, env, funs("abcdfghijklm")+rows("abcdfghijklm"), api.ErrBig)
		untypedIn(t, env, funs("abcdfghijklm")+"("+rows("abcdfghijklm")+",1 1)", api.ErrType)
		untypedIn(t, env, funs("abcdfghijklm")+"("+rows("abcdfghijklm")+",a 1)", api.ErrBig)
		untypedIn(t, env, funs("abcdfghijklm")+"("+rows("abcdfghijklm")+",m 1)", api.ErrBig)
	})
	ends(t, "a let within", func() {
		untypedIn(t, env, funs("abcdfghijklm")+"("+rows("abcdfghijklm")+",let z = fun x -> x in 1 1)", api.ErrType)
	})
	ends(t, "from the lowest on", func() {
		// Each is found to be a tower of one that is known already.
		low := strings.Replace(funs("abcdfghij"), "fun a->", "fun a->fun q->", 1) + "(e i j,(e h i,(e g h,(e f g,(e d f,(e c d,(e b c,(e a b,1 1))))))))"
		untypedIn(t, env, low, api.ErrBig)
		untypedIn(t, env, "(if true then n else fun a -> fun b -> fun c -> fun d -> (e a b, (e b c, e c d))) 1 1", api.ErrBig)
	})
	ends(t, "two towers of towers that are made equal", func() {
		src := "(if true then (a,i) else snd (" + rows("abcdfgh") + ",snd (" + rows("ijklmo") + ",p))) 1"
		untypedIn(t, env, funs("abcdfghijklmo")+src, api.ErrBig)
	})
}

func TestP1OneEquationThatMakesAHugeType(t *testing.T) {
	// The variables of one side become pairs of the next one, from the first on or from the last on.
	for _, down := range []int{0, 1} {
		left, right := "int", "int"
		for k := range 28 {
			if down == 1 {
				k = 27 - k
			}
			x, y := standing(k), standing(k+1)
			left, right = "("+x+","+left+")", "(("+y+","+y+"),"+right+")"
		}
		ends(t, "a row of pairs", func() {
			env := given("f", left+" -> int", "g", left+" -> [int]", "x", right, "y", right)
			typedIn(t, env, "(f x, (g x, f y))", "(int, ([int], int))")
		})
	}
}

// node: an expression as these tests have it: a name, a number, or one of fun, let, if, an application ("()"), a pair (",") and a let rec ("rec": its names with blanks between; below are what they are, and the expression behind in).
type node struct {
	head, name string
	below      []node
}

func name(name string) node { return node{head: "name", name: name} }

// text: with brackets about all that is not a leaf; use is told each name that is asked for, its place, and whether the expression binds it.
func (e node) text(ahead string, own []string, use func(name string, at int, bound bool)) string {
	with := slices.Concat(own, []string{e.name})
	switch e.head {
	case "name":
		use(e.name, len(ahead), slices.Contains(own, e.name))
		return ahead + e.name
	case "number":
		return ahead + e.name
	case "fun":
		return e.below[0].text(ahead+"(fun "+e.name+" -> ", with, use) + ")"
	case "let":
		value := e.below[0].text(ahead+"(let "+e.name+" = ", own, use)
		return e.below[1].text(value+" in ", with, use) + ")"
	case "if":
		test := e.below[0].text(ahead+"(if ", own, use)
		yes := e.below[1].text(test+" then ", own, use)
		return e.below[2].text(yes+" else ", own, use) + ")"
	case "rec":
		return e.textOfGroup(ahead, own, use)
	}
	between := " "
	if e.head == "," {
		between = ", "
	}
	first := e.below[0].text(ahead+"(", own, use)
	return e.below[1].text(first+between, own, use) + ")"
}

func (e node) textOfGroup(ahead string, own []string, use func(name string, at int, bound bool)) string {
	group := strings.Fields(e.name)
	with := slices.Concat(own, group)
	text, word := ahead+"(let rec ", ""
	for k, g := range group {
		text = e.below[k].text(text+word+g+" = ", with, use)
		word = " and "
	}
	return e.below[len(group)].text(text+" in ", with, use) + ")"
}

// model types expressions by the document's words, in the plainest way: what has been found out is put into whole types.
type model struct {
	found      map[string]tree
	made       int
	fuel, stop int
	rounds     []string
}

type modelScheme struct {
	general []string
	of      tree
}

func (m *model) fresh() tree {
	m.made++
	return tree{head: "v" + strconv.Itoa(m.made)}
}

func (m *model) now(x tree) tree {
	if y, known := m.found[x.head]; known {
		return m.now(y)
	}
	z := tree{head: x.head}
	for _, b := range x.below {
		z.below = append(z.below, m.now(b))
	}
	return z
}

func isVariable(x tree) bool { return strings.HasPrefix(x.head, "v") }

func (m *model) equal(x, y tree) {
	x, y = m.now(x), m.now(y)
	if isVariable(y) {
		x, y = y, x
	}
	switch {
	case isVariable(x):
		within := map[string]tree{}
		y.variables(within)
		if _, there := within[x.head]; there && len(y.below) > 0 {
			panic(api.ErrType)
		}
		if x.head != y.head {
			m.found[x.head] = y
		}
	case x.head != y.head:
		panic(api.ErrType)
	}
	if !isVariable(x) {
		for k := range x.below {
			m.equal(x.below[k], y.below[k])
		}
	}
}

func (m *model) instance(s modelScheme) tree {
	by := map[string]tree{}
	for _, v := range s.general {
		by[v] = m.fresh()
	}
	return m.now(s.of).with(by)
}

// scheme: with those names there, and no hidden ones.
func (m *model) scheme(x tree, names map[string]modelScheme) modelScheme {
	x = m.now(x)
	free, own := map[string]tree{}, map[string]tree{}
	for _, s := range names {
		its := map[string]tree{}
		m.now(s.of).variables(its)
		for _, v := range s.general {
			delete(its, v)
		}
		maps.Copy(free, its)
	}
	x.variables(own)
	s := modelScheme{of: x}
	for v := range own {
		if _, bound := free[v]; !bound {
			s.general = append(s.general, v)
		}
	}
	return s
}

func (m *model) typ(e node, names map[string]modelScheme) tree {
	x := m.now(m.byKind(e, names))
	if x.size() > api.MaxSize {
		panic(api.ErrBig)
	}
	return x
}

func (m *model) byKind(e node, names map[string]modelScheme) tree {
	with := func(s modelScheme) map[string]modelScheme {
		more := maps.Clone(names)
		more[e.name] = s
		return more
	}
	switch e.head {
	case "name":
		return m.instance(names[e.name])
	case "number":
		return tree{head: "int"}
	case "rec":
		return m.group(e, names)
	case "fun":
		x := m.fresh()
		return tree{"->", []tree{x, m.typ(e.below[0], with(modelScheme{of: x}))}}
	case "let":
		x := m.typ(e.below[0], names)
		return m.typ(e.below[1], with(m.scheme(x, names)))
	case "if":
		m.equal(m.typ(e.below[0], names), tree{head: "bool"})
		x := m.typ(e.below[1], names)
		m.equal(x, m.typ(e.below[2], names))
		return x
	case ",":
		x := m.typ(e.below[0], names)
		return tree{",", []tree{x, m.typ(e.below[1], names)}}
	}
	f := m.typ(e.below[0], names)
	a, r := m.typ(e.below[1], names), m.fresh()
	m.equal(f, tree{"->", []tree{a, r}})
	return r
}

// modelNames: the schemes of those types, all of whose variables begin with v.
func modelNames(env map[string]tree) map[string]modelScheme {
	names := map[string]modelScheme{}
	for n, x := range env {
		general := map[string]tree{}
		x.variables(general)
		names[n] = modelScheme{slices.Collect(maps.Keys(general)), x}
	}
	return names
}

// answer: what Watch is to answer, with a watcher that stops it at the stop-th round (0: never): the text, or what its error tells, and what was told of rounds.
func answer(e node, env map[string]tree, fuel, stop int) (src, text, told string, rounds []string) {
	src = e.text("", nil, func(name string, at int, bound bool) {
		if _, stands := env[name]; !bound && !stands && told == "" {
			told = name + " at " + strconv.Itoa(at)
		}
	})
	if told != "" {
		return src, "", told, nil
	}
	m := &model{found: map[string]tree{}, fuel: fuel, stop: stop}
	defer func() {
		rounds = m.rounds
		if err, is := recover().(error); is {
			text, told = "", err.Error()
		}
	}()
	return src, m.typ(e, modelNames(env)).strict(), "", nil
}

// agrees: that Infer and Watch answer what the model does; it tells what that is.
func agrees(t *testing.T, e node, env map[string]tree, handed map[string]api.Typed, fuel, stop int) string {
	t.Helper()
	src, text, want, rounds := answer(e, env, fuel, stop)
	if len(src) > api.MaxText {
		return "long"
	}
	got, seen, err := watched(src, handed, fuel, stop)
	if errors.Is(err, api.ErrDeep) {
		return "deep"
	}
	if got != text || told(err) != want || !slices.Equal(seen, rounds) {
		t.Errorf("Watch(%q, .., %d) = %q, %v with %q, want %q, %s with %q", src, fuel, got, err, seen, text, want, rounds)
	}
	if want == api.ErrStopped.Error() {
		return want
	}
	if got, err := infer.Infer(src, handed, fuel); got != text || told(err) != want {
		t.Errorf("Infer(%q, .., %d) = %q, %v, want %q, %s", src, fuel, got, err, text, want)
	}
	return want
}

// handed: the map of those types.
func handed(env map[string]tree) map[string]api.Typed {
	m := map[string]api.Typed{}
	for name, x := range env {
		m[name] = api.Typed{Type: x.text(own)}
	}
	return m
}

func leaf(head string) tree { return tree{head: head} }

func arrow(x, y tree) tree { return tree{"->", []tree{x, y}} }

// everyNode: all expressions of so many parts, over those leaves; all that are bound are x or y.
func everyNode(parts int, leaves []node) []node {
	if parts == 1 {
		return leaves
	}
	var all []node
	for _, b := range everyNode(parts-1, leaves) {
		all = append(all, node{"fun", "x", []node{b}}, node{"fun", "y", []node{b}})
	}
	for k := 1; k < parts-1; k++ {
		for _, a := range everyNode(k, leaves) {
			for _, b := range everyNode(parts-1-k, leaves) {
				two := []node{a, b}
				all = append(all, node{"()", "", two}, node{",", "", two}, node{"let", "x", two}, node{"let", "y", two})
			}
		}
	}
	return all
}

func TestP4EverySmallExpression(t *testing.T) {
	env := map[string]tree{"t": leaf("bool")}
	leaves := []node{name("x"), name("y"), name("t"), {head: "number", name: "1"}}
	seen := map[string]int{}
	for parts := 1; parts <= 6; parts++ {
		for _, e := range everyNode(parts, leaves) {
			seen[agrees(t, e, env, handed(env), 1, 0)]++
		}
	}
	few := everyNode(2, leaves)
	for _, a := range few {
		for _, b := range few {
			for _, c := range few {
				seen[agrees(t, node{"fun", "x", []node{{"if", "", []node{a, b, c}}}}, env, handed(env), 1, 0)]++
			}
		}
	}
	// Within a function the names stand for something, so that types are what counts.
	for _, e := range everyNode(7, []node{name("x"), name("y")}) {
		e = node{"fun", "x", []node{{"let", "y", []node{name("x"), e}}}}
		seen[agrees(t, e, env, handed(env), 1, 0)]++
	}
	if seen[""] < 1000 || seen[api.ErrType.Error()] < 1000 {
		t.Errorf("too few of a kind: %v", seen)
	}
}

// scoper makes expressions whose names mostly stand for something: by those that are handed in, or by the expression; groups: so many of ten that are no leaves are lets rec.
type scoper struct {
	maker
	env    []string
	groups int
}

func (m scoper) pick(from []string) string { return from[m.Intn(len(from))] }

func (m scoper) leaf(own []string) node {
	switch k := m.Intn(40); {
	case k == 0:
		return name(m.pick([]string{"x", "q", "nothing", "f"}))
	case k < 4:
		return node{head: "number", name: m.pick([]string{"0", "7", "42"})}
	case k < 26 && len(own) > 0:
		return name(m.pick(own[max(0, len(own)-4):]))
	}
	return name(m.pick(m.env))
}

func (m scoper) exp(budget int, own []string) node {
	if budget <= 1 {
		return m.leaf(own)
	}
	if m.Intn(10) < m.groups {
		return m.group(budget, own)
	}
	bind := m.pick([]string{"x", "y", "z", "f", "g", "eq"})
	with := slices.Concat(own, []string{bind})
	switch m.Intn(9) {
	case 0, 1:
		return node{"fun", bind, []node{m.exp(budget-1, with)}}
	case 2, 3, 4:
		return node{"let", bind, []node{m.exp(budget/2, own), m.exp(budget-1-budget/2, with)}}
	case 5:
		test := node{"()", "", []node{name("eq"), m.exp(budget/4, own)}}
		test = node{"()", "", []node{test, m.exp(budget/4, own)}}
		return node{"if", "", []node{test, m.exp(budget/4, own), m.exp(budget/4, own)}}
	case 6:
		return node{",", "", []node{m.exp(budget/2, own), m.exp(budget-1-budget/2, own)}}
	}
	return node{"()", "", []node{m.exp(budget/3, own), m.exp(budget-1-budget/3, own)}}
}

// group: of one to three names; most of what they are, are functions.
func (m scoper) group(budget int, own []string) node {
	names := []string{"x", "y", "f", "g", "h"}
	m.Shuffle(len(names), func(k, l int) { names[k], names[l] = names[l], names[k] })
	names = names[:1+m.Intn(3)]
	with, share := slices.Concat(own, names), (budget-1)/(len(names)+1)
	var below []node
	for range names {
		if m.Intn(3) == 0 {
			below = append(below, m.exp(share, with))
			continue
		}
		bind := m.pick([]string{"u", "w", "x"})
		below = append(below, node{"fun", bind, []node{m.exp(share, slices.Concat(with, []string{bind}))}})
	}
	return node{"rec", strings.Join(names, " "), append(below, m.exp(share, with))}
}

// library: what the expressions that are made at random have at hand.
func library() map[string]tree {
	v, u, list, pair := leaf("v"), leaf("vu"), tree{"[", []tree{leaf("v")}}, tree{",", []tree{leaf("v"), leaf("vu")}}
	return map[string]tree{
		"true": leaf("bool"), "nil": list, "cons": arrow(v, arrow(list, list)), "fst": arrow(pair, v), "snd": arrow(pair, u), "hd": arrow(list, v),
		"add": arrow(leaf("int"), arrow(leaf("int"), leaf("int"))), "eq": arrow(v, arrow(v, leaf("bool"))), "n": v, "d": arrow(v, tree{",", []tree{v, v}}), "id": arrow(v, v),
	}
}

func TestP4ExpressionsMadeAtRandom(t *testing.T) {
	env := library()
	m := scoper{maker{rand.New(rand.NewSource(4))}, slices.Sorted(maps.Keys(env)), 0}
	seen := map[string]int{}
	for range 60000 {
		seen[agrees(t, m.exp(1+m.Intn(26), nil), env, handed(env), 1, 0)]++
	}
	// Rows of d make types that are about as big as they may be.
	for range 4000 {
		e := m.exp(1+m.Intn(8), nil)
		for range m.Intn(7) {
			e = node{"()", "", []node{name("d"), e}}
		}
		seen[agrees(t, node{",", "", []node{e, m.exp(6, nil)}}, env, handed(env), 1, 0)]++
	}
	if seen[""] < 10000 || seen[api.ErrType.Error()] < 10000 || seen[api.ErrBig.Error()] < 300 || len(seen) < 100 {
		t.Errorf("too few of a kind: %d, %d, %d, %d", seen[""], seen[api.ErrType.Error()], seen[api.ErrBig.Error()], len(seen))
	}
}

func FuzzInfer(f *testing.F) {
	for _, s := range []string{"", "fun x->x", "let i = fun x -> x in (i 1, i t)", "let rec f = x in f", "let rec f = fun y -> f in f", "let rec f = g and g = 1 in f", "fun z -> let rec f = z and g = fun y -> f in (f, g)", "if t then x else y", "f (x y) 1", "(x, y, z)", "y", "fun x -> x x"} {
		f.Add(s, "f", "a -> b", 1)
	}
	f.Add("x y", "x", "(", 13)
	f.Fuzz(func(t *testing.T, src, name, typ string, fuel int) {
		inferHolds(t, src, given("t", "bool", "x", "a", name, typ), fuel)
	})
}
