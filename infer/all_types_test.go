package infer_test

import (
	"errors"
	"maps"
	"math/rand"
	"strconv"
	"strings"
	"sync"
	"testing"

	"schemes/api"
	"schemes/infer"
)

// canonHolds: what is true of Canon at every text whatever.
func canonHolds(t *testing.T, typ string) {
	t.Helper()
	got, err := infer.Canon(typ)
	again, errAgain := infer.Canon(typ)
	if got != again || (err == nil) != (errAgain == nil) {
		t.Errorf("Canon(%q) answers %q, %v and then %q, %v", typ, got, err, again, errAgain)
	}
	var s *api.SyntaxError
	switch {
	case err == nil:
		canonHoldsOfText(t, typ, got)
	case got != "":
		t.Errorf("Canon(%q) = %q beside %v", typ, got, err)
	case errors.Is(err, api.ErrLong) != (len(typ) > api.MaxText):
		t.Errorf("Canon(%q) of %d bytes: %v", typ, len(typ), err)
	case errors.As(err, &s):
		canonHoldsOfPlace(t, typ, s.At)
	case !errors.Is(err, api.ErrLong) && !errors.Is(err, api.ErrBig):
		t.Errorf("Canon(%q): %v, which is no error of the document", typ, err)
	}
}

// canonHoldsOfText: the one text is its own one text, and each of the two types comes of the other.
func canonHoldsOfText(t *testing.T, typ, text string) {
	t.Helper()
	if text == "" {
		t.Errorf("Canon(%q) is empty without an error", typ)
	}
	if len(text) > api.MaxText {
		return
	}
	if again, err := infer.Canon(text); again != text || err != nil {
		t.Errorf("Canon(%q) = %q, of which Canon is %q, %v", typ, text, again, err)
	}
	there, err := infer.Instance(typ, text)
	back, errBack := infer.Instance(text, typ)
	if err != nil || errBack != nil || len(there) != len(back) {
		t.Errorf("of %q and %q: %v, %v and %v, %v", typ, text, there, err, back, errBack)
	}
	for name, as := range there {
		if back[as.Type].Type != name {
			t.Errorf("of %q and %q: %s stands for %s, but not the other way", typ, text, name, as.Type)
		}
	}
}

// canonHoldsOfPlace: what stands ahead of the place is sound, or ends too soon just there; and no blank stands at the place.
func canonHoldsOfPlace(t *testing.T, typ string, at int) {
	t.Helper()
	if at < 0 || at > len(typ) {
		t.Errorf("Canon(%q): the place %d is none of the text", typ, at)
		return
	}
	if at < len(typ) && strings.Contains(" \n", typ[at:at+1]) {
		t.Errorf("Canon(%q): a blank stands at %d", typ, at)
	}
	_, err := infer.Canon(typ[:at])
	var s *api.SyntaxError
	if errors.As(err, &s) && s.At != at {
		t.Errorf("Canon(%q): a fault at %d, but ahead of it one at %d", typ, at, s.At)
	}
}

// instanceHolds: what is true of Instance at all texts whatever.
func instanceHolds(t *testing.T, general, special string) {
	t.Helper()
	_, errGeneral := infer.Canon(general)
	_, errSpecial := infer.Canon(special)
	m, err := infer.Instance(general, special)
	again, errAgain := infer.Instance(general, special)
	if !maps.Equal(m, again) || !sameError(err, errAgain) || (m == nil) != (again == nil) {
		t.Errorf("Instance(%q, %q) answers %v, %v and then %v, %v", general, special, m, err, again, errAgain)
	}
	if (m == nil) != (err != nil) {
		t.Errorf("Instance(%q, %q) = %v beside %v", general, special, m, err)
	}
	want := errGeneral
	if want == nil {
		want = errSpecial
	}
	if want != nil && !sameError(err, want) {
		t.Errorf("Instance(%q, %q): %v, want %v", general, special, err, want)
	}
	if want == nil && err != nil && !errors.Is(err, api.ErrNot) {
		t.Errorf("Instance(%q, %q): %v", general, special, err)
	}
}

// sameError: both none, both at one place of a text, or both one value.
func sameError(x, y error) bool {
	var s, u *api.SyntaxError
	if errors.As(x, &s) && errors.As(y, &u) {
		return s.At == u.At
	}
	return x == y
}

func TestP1EveryShortTextOfAType(t *testing.T) {
	check := func(typ string) { canonHolds(t, typ) }
	eachRow([]string{"x", "1", "(", ")", ",", "-", ">", "=", " ", "\n", "[", "]", "$"}, 4, "", check)
	eachRow([]string{"int ", "bool ", "x ", "y ", "let ", "-> ", "( ", ") ", ", ", "[ ", "] "}, 5, "", check)
}

func TestP1EveryTwoShortTexts(t *testing.T) {
	var texts []string
	eachRow([]string{"int ", "x ", "y ", "-> ", "( ", ") ", ", ", "[ ", "] "}, 3, "", func(s string) { texts = append(texts, s) })
	for _, g := range texts {
		for _, s := range texts {
			instanceHolds(t, g, s)
		}
	}
}

func TestP1WrongTextsOfTypes(t *testing.T) {
	check := func(typ string) {
		t.Helper()
		canonHolds(t, typ)
		instanceHolds(t, typ, "a")
		instanceHolds(t, "a", typ)
		instanceHolds(t, typ, typ)
	}
	for c := range 256 {
		b := string([]byte{byte(c)})
		for _, n := range []int{1, 2, api.MaxName, api.MaxText, api.MaxText + 1, 100000} {
			check(strings.Repeat(b, n))
			check("x " + strings.Repeat(b, n) + " -> y")
		}
	}
	for _, piece := range []string{"(", "((", "[", "[[", "x->", "(x,", "[x]->", "(x->"} {
		for n := range 310 {
			check(strings.Repeat(piece, n))
			check(strings.Repeat(piece, n) + "x")
			check(strings.Repeat(piece, n) + "x" + strings.Repeat(")", n))
			check(strings.Repeat(piece, n) + "x" + strings.Repeat("]", n))
		}
	}
	check(strings.Repeat("[", 5000000))
	check("\xff\xfe\x00")
}

func TestP1EveryCutOfATypesText(t *testing.T) {
	typ := "(a -> [(b, int)]) -> ((bool -> c) -> let, [[a]]) -> b"
	canon(t, typ, "(a -> [(b, int)]) -> ((bool -> c) -> d, [[a]]) -> b")
	for k := range len(typ) {
		canonHolds(t, typ[:k])
		canonHolds(t, typ[k:])
		canonHolds(t, typ[:k]+"$"+typ[k:])
		canonHolds(t, typ[:k]+" "+typ[k:])
		canonHolds(t, typ[:k]+typ[k+1:])
	}
}

func TestP1ManyTypesAtOnce(t *testing.T) {
	var all sync.WaitGroup
	for range 8 {
		all.Add(1)
		go func() {
			defer all.Done()
			for range 200 {
				canon(t, "(q->p)->[q]", "(a -> b) -> [a]")
				canonBreaks(t, "(x, y, z)", 5)
				stands(t, "a -> b", "y -> [x]", "a", "y", "b", "[x]")
				instanceFails(t, "a -> a", "x -> y", api.ErrNot)
			}
		}()
	}
	all.Wait()
}

// tree: a type as these tests have it: a word (int, bool, a variable) or a sign ("[", "," or "->") with types below it.
type tree struct {
	head  string
	below []tree
}

// size and text: by the document's words, in the plainest way.
func (x tree) size() int {
	n := 1
	for _, b := range x.below {
		n += b.size()
	}
	return n
}

func (x tree) text(name func(string) string) string {
	switch x.head {
	case "[":
		return "[" + x.below[0].text(name) + "]"
	case ",":
		first := x.below[0].text(name)
		return "(" + first + ", " + x.below[1].text(name) + ")"
	case "->":
		left := x.below[0].text(name)
		if x.below[0].head == "->" {
			left = "(" + left + ")"
		}
		return left + " -> " + x.below[1].text(name)
	case "int", "bool":
		return x.head
	}
	return name(x.head)
}

func own(name string) string { return name }

// strict: the one text.
func (x tree) strict() string {
	var seen []string
	return x.text(func(name string) string {
		for k, s := range seen {
			if s == name {
				return standing(k)
			}
		}
		seen = append(seen, name)
		return standing(len(seen) - 1)
	})
}

// standing: the name of the k-th variable.
func standing(k int) string {
	if k < 26 {
		return string(rune('a' + k))
	}
	return string(rune('a'+k%26)) + strconv.Itoa(k/26)
}

// with: the type with those for its variables.
func (x tree) with(by map[string]tree) tree {
	if y, ok := by[x.head]; ok {
		return y
	}
	z := tree{head: x.head}
	for _, b := range x.below {
		z.below = append(z.below, b.with(by))
	}
	return z
}

// variables: their names, each once.
func (x tree) variables(seen map[string]tree) {
	if len(x.below) == 0 && x.head != "int" && x.head != "bool" {
		seen[x.head] = tree{}
	}
	for _, b := range x.below {
		b.variables(seen)
	}
}

// parts: the type and all that stand within it.
func (x tree) parts() []tree {
	all := []tree{x}
	for _, b := range x.below {
		all = append(all, b.parts()...)
	}
	return all
}

func (m maker) tree(budget int, words []string) tree {
	if budget <= 1 || m.Intn(8) == 0 {
		return tree{head: words[m.Intn(len(words))]}
	}
	switch m.Intn(4) {
	case 0:
		return tree{"[", []tree{m.tree(budget-1, words)}}
	case 1:
		return tree{",", []tree{m.tree(budget/2, words), m.tree(budget/2, words)}}
	}
	return tree{"->", []tree{m.tree(budget/2, words), m.tree(budget/2, words)}}
}

// loose: a text of the type, with blanks and brackets as they come.
func (m maker) loose(x tree) string {
	text := x.head
	switch x.head {
	case "[":
		text = "[" + m.perhaps() + m.loose(x.below[0]) + m.perhaps() + "]"
	case ",":
		text = "(" + m.loose(x.below[0]) + m.perhaps() + "," + m.perhaps() + m.loose(x.below[1]) + ")"
	case "->":
		left := m.loose(x.below[0])
		if x.below[0].head == "->" {
			left = "(" + left + m.perhaps() + ")"
		}
		text = left + m.perhaps() + "->" + m.perhaps() + m.loose(x.below[1])
	}
	if m.Intn(5) == 0 {
		text = "(" + m.perhaps() + text + m.perhaps() + ")"
	}
	return text
}

func TestP3TypesMadeAtRandom(t *testing.T) {
	m := maker{rand.New(rand.NewSource(2))}
	words := []string{"int", "bool", "a", "b", "z", "x1", "let", "abcdefgh", "c", "ints"}
	shown, big, long := 0, 0, 0
	for range 40000 {
		x := m.tree(1+m.Intn(160), words)
		loose := m.loose(x)
		if m.Intn(2) == 0 {
			x = m.tree(1+m.Intn(240), []string{"a", "b", "c"})
			loose = strings.ReplaceAll(x.text(own), " ", "")
		}
		switch {
		case len(loose) > api.MaxText:
			long++
			canonFails(t, loose, api.ErrLong)
		case x.size() > api.MaxSize:
			big++
			canonFails(t, loose, api.ErrBig)
		default:
			shown++
			canon(t, loose, x.strict())
			canonHolds(t, loose)
			stands(t, "v", loose, "v", x.text(own))
		}
	}
	if shown < 10000 || big < 20 || long < 100 {
		t.Errorf("too few of a kind: %d shown, %d big, %d long", shown, big, long)
	}
}

func TestP3InstancesMadeAtRandom(t *testing.T) {
	m := maker{rand.New(rand.NewSource(3))}
	for range 20000 {
		general := m.tree(1+m.Intn(12), []string{"int", "bool", "a", "b", "c", "x"})
		by, want := map[string]tree{}, []string{}
		general.variables(by)
		for _, name := range []string{"a", "b", "c", "x"} {
			if _, stands := by[name]; stands {
				by[name] = m.tree(1+m.Intn(6), []string{"int", "bool", "a", "b", "y"})
				want = append(want, name, by[name].text(own))
			}
		}
		special := general.with(by)
		g, s := m.loose(general), m.loose(special)
		if special.size() > api.MaxSize || len(g) > api.MaxText || len(s) > api.MaxText {
			continue
		}
		stands(t, g, s, want...)
	}
}

// small: all types of at most that size.
func small(size int, words []string) []tree {
	if size < 1 {
		return nil
	}
	var all []tree
	for _, w := range words {
		all = append(all, tree{head: w})
	}
	for _, x := range small(size-1, words) {
		all = append(all, tree{"[", []tree{x}})
	}
	for _, x := range small(size-2, words) {
		for _, y := range small(size-1-x.size(), words) {
			all = append(all, tree{",", []tree{x, y}}, tree{"->", []tree{x, y}})
		}
	}
	return all
}

// comes: whether special comes of general, by trying for each variable all that stands within special.
func comes(general, special tree, open []string, by map[string]tree) bool {
	if len(open) == 0 {
		return general.with(by).text(own) == special.text(own)
	}
	for _, p := range special.parts() {
		by[open[0]] = p
		if comes(general, special, open[1:], by) {
			return true
		}
	}
	return false
}

func TestP3EverySmallInstance(t *testing.T) {
	generals, specials := small(4, []string{"int", "a", "b"}), small(4, []string{"int", "a", "c"})
	for _, g := range generals {
		for _, s := range specials {
			by, open := map[string]tree{}, []string{}
			g.variables(by)
			for _, name := range []string{"a", "b"} {
				if _, stands := by[name]; stands {
					open = append(open, name)
				}
			}
			if !comes(g, s, open, by) {
				instanceFails(t, g.text(own), s.text(own), api.ErrNot)
				continue
			}
			var want []string
			for _, name := range open {
				want = append(want, name, by[name].text(own))
			}
			stands(t, g.text(own), s.text(own), want...)
		}
	}
}

func FuzzCanon(f *testing.F) {
	for _, s := range []string{"", "(q->p)->[q]", "[(a, int)] -> bool", "a -> b -> a", "(x, y, z)", "a - b", "\xff"} {
		f.Add(s)
	}
	f.Fuzz(canonHolds)
}

func FuzzInstance(f *testing.F) {
	f.Add("a -> b -> [a]", "(x, y) -> int -> [(x, y)]")
	f.Add("a -> a", "int -> bool")
	f.Add("(", ")")
	f.Fuzz(instanceHolds)
}
