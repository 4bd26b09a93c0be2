package infer_test

import (
	"errors"
	"math/rand"
	"strings"
	"sync"
	"testing"

	"schemes/api"
	"schemes/infer"
)

// holds: what is true of Show at every text whatever.
func holds(t *testing.T, src string) {
	t.Helper()
	got, err := infer.Show(src)
	again, errAgain := infer.Show(src)
	if got != again || (err == nil) != (errAgain == nil) {
		t.Errorf("Show(%q) answers %q, %v and then %q, %v", src, got, err, again, errAgain)
	}
	var s *api.SyntaxError
	switch {
	case err == nil:
		holdsOfText(t, src, got)
	case got != "":
		t.Errorf("Show(%q) = %q beside %v", src, got, err)
	case errors.Is(err, api.ErrLong) != (len(src) > api.MaxText):
		t.Errorf("Show(%q) of %d bytes: %v", src, len(src), err)
	case errors.As(err, &s):
		holdsOfPlace(t, src, s.At)
	case !errors.Is(err, api.ErrLong) && !errors.Is(err, api.ErrDeep):
		t.Errorf("Show(%q): %v, which is no error of the document", src, err)
	}
}

// holdsOfText: the one text is its own one text.
func holdsOfText(t *testing.T, src, text string) {
	t.Helper()
	if text == "" {
		t.Errorf("Show(%q) is empty without an error", src)
	}
	if len(text) > api.MaxText {
		return
	}
	if again, err := infer.Show(text); again != text || err != nil {
		t.Errorf("Show(%q) = %q, of which Show is %q, %v", src, text, again, err)
	}
}

// holdsOfPlace: what stands ahead of the place is sound, or ends too soon just there; and no blank stands at the place.
func holdsOfPlace(t *testing.T, src string, at int) {
	t.Helper()
	if at < 0 || at > len(src) {
		t.Errorf("Show(%q): the place %d is none of the text", src, at)
		return
	}
	if at < len(src) && strings.Contains(" \n", src[at:at+1]) {
		t.Errorf("Show(%q): a blank stands at %d", src, at)
	}
	_, err := infer.Show(src[:at])
	var s *api.SyntaxError
	if errors.As(err, &s) && s.At != at {
		t.Errorf("Show(%q): a fault at %d, but ahead of it one at %d", src, at, s.At)
	}
}

// eachRow calls use with every row of at most so many of the pieces.
func eachRow(pieces []string, most int, row string, use func(string)) {
	use(row)
	if most == 0 {
		return
	}
	for _, p := range pieces {
		eachRow(pieces, most-1, row+p, use)
	}
}

func TestP1EveryShortText(t *testing.T) {
	check := func(src string) { holds(t, src) }
	eachRow([]string{"x", "1", "(", ")", ",", "-", ">", "=", " ", "\n", "[", "$"}, 4, "", check)
	eachRow([]string{"fun ", "let ", "rec ", "and ", "in ", "if ", "then ", "else ", "x ", "y ", "1 ", "-> ", "= ", "( ", ") ", ", "}, 4, "", check)
}

func TestP1WrongTexts(t *testing.T) {
	for c := range 256 {
		b := string([]byte{byte(c)})
		for _, n := range []int{1, 2, api.MaxName, api.MaxText, api.MaxText + 1, 100000} {
			holds(t, strings.Repeat(b, n))
			holds(t, "x "+strings.Repeat(b, n)+" y")
		}
	}
	for _, piece := range []string{"(", "((", "fun x->", "let x=", "let rec f=", "if ", "x(", "(x,", "let rec f=1 and ", "let x=1 in "} {
		for n := range 310 {
			holds(t, strings.Repeat(piece, n))
			holds(t, strings.Repeat(piece, n)+"x")
			holds(t, strings.Repeat(piece, n)+"x"+strings.Repeat(")", n))
		}
	}
	holds(t, strings.Repeat("(", 5000000))
	holds(t, "\xff\xfe\x00")
}

func TestP1EveryCutOfAText(t *testing.T) {
	src := "let rec f = fun x -> if g (x, 12) then f else (let y = 1 in y) x and g = f 1 in (f, g)"
	shows(t, src, src)
	for k := range len(src) {
		holds(t, src[:k])
		holds(t, src[k:])
		holds(t, src[:k]+"$"+src[k:])
		holds(t, src[:k]+" "+src[k:])
		holds(t, src[:k]+src[k+1:])
	}
}

func TestP1ManyAtOnce(t *testing.T) {
	var all sync.WaitGroup
	for range 8 {
		all.Add(1)
		go func() {
			defer all.Done()
			for range 200 {
				shows(t, "f((x))(y z)", "f x (y z)")
				breaks(t, "(x, y, z)", 5)
				fails(t, nested(api.MaxDepth+1), api.ErrDeep)
			}
		}()
	}
	all.Wait()
}

// sample: an expression that was made here: loose is a text of it, with blanks and brackets as they came; strict is its one text.
type sample struct {
	loose, strict string
	depth         int
	open          bool // a fun, let or if
	applied       bool
}

type maker struct {
	*rand.Rand
}

func (m maker) blank() string {
	return []string{" ", "\n", "  ", " \n "}[m.Intn(4)]
}

func (m maker) perhaps() string {
	if m.Intn(2) == 0 {
		return ""
	}
	return m.blank()
}

func (m maker) name() string {
	return []string{"x", "y1", "f", "abcdefgh", "recs", "i2n"}[m.Intn(6)]
}

// bracketed: the loose text in brackets: at least that many.
func (m maker) bracketed(s sample, least int) string {
	text := s.loose
	for range least + m.Intn(4)/3 {
		text = "(" + m.perhaps() + text + m.perhaps() + ")"
	}
	return text
}

func (m maker) make(budget int) sample {
	if budget <= 1 {
		leaf := []string{m.name(), "1", "0042"}[m.Intn(3)]
		return sample{leaf, leaf, 1, false, false}
	}
	switch m.Intn(6) {
	case 0:
		return m.fun(budget - 1)
	case 1:
		return m.choice(budget / 3)
	case 2:
		return m.let(budget / 2)
	case 3:
		return m.group(budget / 3)
	case 4:
		return m.pair(budget / 2)
	}
	return m.apply(budget / 2)
}

func (m maker) fun(budget int) sample {
	name, body := m.name(), m.make(budget)
	loose := "fun" + m.blank() + name + m.perhaps() + "->" + m.perhaps() + m.bracketed(body, 0)
	return sample{loose, "fun " + name + " -> " + body.strict, body.depth + 1, true, false}
}

func (m maker) choice(budget int) sample {
	a, b, c := m.make(budget), m.make(budget), m.make(budget)
	loose := "if" + m.blank() + m.bracketed(a, 0) + m.blank() + "then" + m.blank() + m.bracketed(b, 0) + m.blank() + "else" + m.blank() + m.bracketed(c, 0)
	return sample{loose, "if " + a.strict + " then " + b.strict + " else " + c.strict, max(a.depth, b.depth, c.depth) + 1, true, false}
}

func (m maker) let(budget int) sample {
	name, a, b := m.name(), m.make(budget), m.make(budget)
	loose := "let" + m.blank() + name + m.perhaps() + "=" + m.perhaps() + m.bracketed(a, 0) + m.blank() + "in" + m.blank() + m.bracketed(b, 0)
	return sample{loose, "let " + name + " = " + a.strict + " in " + b.strict, max(a.depth, b.depth) + 1, true, false}
}

func (m maker) group(budget int) sample {
	e := m.make(budget)
	loose, strict, deepest, word := "let"+m.blank()+"rec", "let rec", e.depth, ""
	for k := range 1 + m.Intn(3) {
		name, a := "abc"[k:k+1], m.make(budget)
		loose += word + m.blank() + name + m.perhaps() + "=" + m.perhaps() + m.bracketed(a, 0)
		if word != "" {
			strict += " and"
		}
		strict += " " + name + " = " + a.strict
		deepest, word = max(deepest, a.depth), m.blank()+"and"
	}
	return sample{loose + m.blank() + "in" + m.blank() + m.bracketed(e, 0), strict + " in " + e.strict, deepest + 1, true, false}
}

func (m maker) pair(budget int) sample {
	a, b := m.make(budget), m.make(budget)
	loose := "(" + m.perhaps() + m.bracketed(a, 0) + m.perhaps() + "," + m.perhaps() + m.bracketed(b, 0) + m.perhaps() + ")"
	return sample{loose, "(" + a.strict + ", " + b.strict + ")", max(a.depth, b.depth) + 1, false, false}
}

func (m maker) apply(budget int) sample {
	f, a := m.make(budget), m.make(budget)
	s := sample{depth: max(f.depth, a.depth) + 1, applied: true}
	left, right := f.strict, a.strict
	needLeft, needRight := 0, 0
	if f.open {
		left, needLeft = "("+left+")", 1
	}
	if a.open || a.applied {
		right, needRight = "("+right+")", 1
	}
	s.strict = left + " " + right
	s.loose = m.bracketed(f, needLeft) + m.blank() + m.bracketed(a, needRight)
	return s
}

func TestP2ExpressionsMadeAtRandom(t *testing.T) {
	m := maker{rand.New(rand.NewSource(1))}
	shown, deep, long := 0, 0, 0
	for range 40000 {
		s := m.make(1 + m.Intn(60))
		switch {
		case len(s.loose) > api.MaxText:
			long++
			fails(t, s.loose, api.ErrLong)
		case s.depth > api.MaxDepth:
			deep++
			fails(t, s.loose, api.ErrDeep)
		default:
			shown++
			shows(t, s.loose, s.strict)
			holds(t, s.loose)
		}
	}
	if shown < 10000 || long < 100 {
		t.Errorf("too few of a kind: %d shown, %d deep, %d long", shown, deep, long)
	}
}

func FuzzShow(f *testing.F) {
	for _, s := range []string{"", "fun x->x", "let rec f = 1 and g = 2 in (f, g)", "if a then b else c", "f (x y) 1", "(x, y, z)", "a - b", "\xff"} {
		f.Add(s)
	}
	f.Fuzz(holds)
}
