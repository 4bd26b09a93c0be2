package infer_test

import (
	"errors"
	"strconv"
	"strings"
	"testing"

	"schemes/api"
	"schemes/infer"
)

// canon: that Canon answers that text.
func canon(t *testing.T, typ, want string) {
	t.Helper()
	if got, err := infer.Canon(typ); got != want || err != nil {
		t.Errorf("Canon(%q) = %q, %v, want %q", typ, got, err, want)
	}
}

// canonBreaks: that Canon answers a *SyntaxError at that place.
func canonBreaks(t *testing.T, typ string, at int) {
	t.Helper()
	got, err := infer.Canon(typ)
	var s *api.SyntaxError
	if got != "" || !errors.As(err, &s) || s.At != at {
		t.Errorf("Canon(%q) = %q, %v, want a syntax error at %d", typ, got, err, at)
	}
}

// canonFails: that Canon answers that error.
func canonFails(t *testing.T, typ string, want error) {
	t.Helper()
	if got, err := infer.Canon(typ); got != "" || !errors.Is(err, want) {
		t.Errorf("Canon(%.60q) (of %d bytes) = %q, %v, want %v", typ, len(typ), got, err, want)
	}
}

// listed: [[..a..]], of that size.
func listed(size int) string {
	return strings.Repeat("[", size-1) + "a" + strings.Repeat("]", size-1)
}

func TestP3ExamplesOfTheDocument(t *testing.T) {
	canon(t, "(q->p)->[q]", "(a -> b) -> [a]")
	canonBreaks(t, "[]", 1)
	canonBreaks(t, "1", 0)
	canonBreaks(t, "a ->", 4)
}

func TestP3Blanks(t *testing.T) {
	canon(t, " \n a \n\n", "a")
	canon(t, "int", "int")
	canon(t, "\nbool ", "bool")
	canon(t, "[ int\n]", "[int]")
	canon(t, "(a,b)", "(a, b)")
	canon(t, "( a  ,\nb )", "(a, b)")
	canon(t, "a->b->int", "a -> b -> int")
	canon(t, "a  ->\n b", "a -> b")
	canon(t, "[a]->[b]", "[a] -> [b]")
	canon(t, "(a,b)->(b,a)", "(a, b) -> (b, a)")
	canon(t, "[(a,[ [b] ])]", "[(a, [[b]])]")
}

func TestP3Brackets(t *testing.T) {
	canon(t, "((a))", "a")
	canon(t, "(int)", "int")
	canon(t, "([((a))])", "[a]")
	canon(t, "((a), ((b)))", "(a, b)")
	canon(t, "((a, b))", "(a, b)")
	canon(t, "(a) -> (b)", "a -> b")
	canon(t, "a -> (b -> c)", "a -> b -> c")
	canon(t, "(a -> b) -> c", "(a -> b) -> c")
	canon(t, "((a -> b)) -> ((c -> d))", "(a -> b) -> c -> d")
	canon(t, "((a -> b) -> c) -> d", "((a -> b) -> c) -> d")
	canon(t, "(a -> (b -> c)) -> d", "(a -> b -> c) -> d")
	canon(t, "a -> ((b -> c) -> d)", "a -> (b -> c) -> d")
	canon(t, "[(a -> b)] -> c", "[a -> b] -> c")
	canon(t, "((a -> b), (c -> d)) -> e", "(a -> b, c -> d) -> e")
	canon(t, "([a]) -> ((a, b)) -> c", "[a] -> (a, b) -> c")
	canon(t, "((a, b), (c, (d, e)))", "((a, b), (c, (d, e)))")
}

func TestP3VariablesInTheOrderInWhichTheyStand(t *testing.T) {
	canon(t, "z", "a")
	canon(t, "b -> a", "a -> b")
	canon(t, "b -> a -> b", "a -> b -> a")
	canon(t, "(c, (b, a))", "(a, (b, c))")
	canon(t, "((q -> p) -> [p]) -> (r, q)", "((a -> b) -> [b]) -> (c, a)")
	canon(t, "int -> y -> bool -> x", "int -> a -> bool -> b")
	canon(t, "a1 -> a", "a -> b")
	canon(t, "x -> x1 -> x11 -> x1", "a -> b -> c -> b")
	canon(t, "abcdefgh -> abcdefgi -> abcdefgh", "a -> b -> a")
}

func TestP3VariablesBeyondZ(t *testing.T) {
	var names []string
	for _, round := range []string{"", "1", "2"} {
		for c := 'a'; c <= 'z'; c++ {
			names = append(names, string(c)+round)
		}
	}
	most := api.MaxSize / 2
	for count := 1; count <= most; count++ {
		var own []string
		for k := range count {
			own = append(own, "v"+strconv.Itoa(k))
		}
		canon(t, strings.Join(own, "->"), strings.Join(names[:count], " -> "))
	}
	want := strings.Join(names[:most], " -> ")
	if !strings.HasSuffix(want, "z -> a1 -> "+strings.Join(names[27:52], " -> ")+" -> a2 -> b2 -> c2 -> d2 -> e2 -> f2 -> g2 -> h2") {
		t.Errorf("the names are %q", want)
	}
}

func TestP3KeywordsOfATypesText(t *testing.T) {
	for _, k := range []string{"fun", "let", "rec", "and", "in", "if", "then", "else", "true", "ints", "int1", "xint", "boole", "bools", "boo", "i"} {
		canon(t, k, "a")
		canon(t, "x -> "+k+" -> ["+k+"]", "a -> b -> [b]")
	}
	canon(t, "let -> rec -> let", "a -> b -> a")
	for _, k := range []string{"int", "bool"} {
		canon(t, k, k)
		canon(t, "x -> "+k+" -> ["+k+"]", "a -> "+k+" -> ["+k+"]")
	}
	canon(t, "int -> bool -> int", "int -> bool -> int")
	canonBreaks(t, "int int", 4)
	canonBreaks(t, "let x", 4)
}

func TestP3TokensThatAreNone(t *testing.T) {
	for c := range 256 {
		s := string([]byte{byte(c)})
		if strings.Contains("abcdefghijklmnopqrstuvwxyz0123456789=(),[] \n", s) {
			continue
		}
		canonBreaks(t, s, 0)
		canonBreaks(t, "  "+s+" x", 2)
		canonBreaks(t, "x"+s, 1)
		canonBreaks(t, "["+s+"]", 1)
		canonBreaks(t, "x -> \n"+s, 6)
	}
	canonBreaks(t, "a - > b", 2)
	canonBreaks(t, "a --> b", 2)
	canonBreaks(t, "a ->- b", 4)
	canonBreaks(t, "a ->> b", 4)
	canonBreaks(t, "Int", 0)
	canonBreaks(t, "iNt", 1)
	canonBreaks(t, "_a", 0)
	canonBreaks(t, "é", 0)
}

func TestP3TokensThatCannotStandThere(t *testing.T) {
	for _, s := range []string{"->", "=", ")", ",", "]", "1", "12345678"} {
		canonBreaks(t, s, 0)
		canonBreaks(t, "a -> "+s, 5)
		canonBreaks(t, "(  "+s, 3)
		canonBreaks(t, "[ "+s, 2)
		canonBreaks(t, "(a, "+s, 4)
	}
	for _, s := range []string{"=", ")", ",", "]", "1", "b", "int", "bool", "let", "[", "("} {
		canonBreaks(t, "a "+s, 2)
		canonBreaks(t, "int "+s, 4)
		canonBreaks(t, "(a, b) "+s, 7)
		canonBreaks(t, "[a] "+s, 4)
		canonBreaks(t, "a -> b "+s, 7)
	}
	canonBreaks(t, "()", 1)
	canonBreaks(t, "[]", 1)
	canonBreaks(t, "(a, b, c)", 5)
	canonBreaks(t, "(a,)", 3)
	canonBreaks(t, "(,a)", 1)
	canonBreaks(t, "[a, b]", 2)
	canonBreaks(t, "(a]", 2)
	canonBreaks(t, "[a)", 2)
	canonBreaks(t, "[a b]", 3)
	canonBreaks(t, "a -> -> b", 5)
	canonBreaks(t, "a, b", 1)
	canonBreaks(t, "1a", 0)
	canonBreaks(t, "fun x -> x", 4)
}

func TestP3FirstFaultIsTold(t *testing.T) {
	canonBreaks(t, "a ) $", 2)
	canonBreaks(t, "a $ )", 2)
	canonBreaks(t, "1 $", 0)
	canonBreaks(t, "$ 1", 0)
	canonBreaks(t, "[ abcdefghi )", 2)
	canonBreaks(t, ") abcdefghi", 0)
	canonBreaks(t, "(a, b, $", 5)
}

func TestP3TextsThatEndTooSoon(t *testing.T) {
	for _, s := range []string{"", " ", "\n\n ", "(", "(a", "(a,", "(a, b", "((a, b)", "[", "[a", "[[a]", "a ->", "a -> ", "a -> (", "a -> [b\n", "(a -> b) ->"} {
		canonBreaks(t, s, len(s))
	}
}

func TestP3NamesAtTheEdge(t *testing.T) {
	for _, s := range []string{"abcdefgh", "a1234567", "zzzzzzz9"} {
		canon(t, s, "a")
		canon(t, "["+s+"]->"+s, "[a] -> a")
		canonBreaks(t, s+"1", 0)
		canonBreaks(t, s+"z", 0)
		canonBreaks(t, "[ "+s+"1]", 2)
	}
	canonBreaks(t, "123456789", 0)
	canonBreaks(t, "a 123456789", 2)
	canonBreaks(t, strings.Repeat("a", api.MaxText), 0)
}

func TestP3Long(t *testing.T) {
	for _, c := range []struct{ begin, fill, text string }{{"x", " ", "a"}, {"x", "\n", "a"}, {"(int,y)", " ", "(int, a)"}} {
		typ := c.begin + strings.Repeat(c.fill, api.MaxText-len(c.begin))
		canon(t, typ, c.text)
		canonFails(t, typ+c.fill, api.ErrLong)
		canonFails(t, c.fill+typ, api.ErrLong)
	}
	canonBreaks(t, strings.Repeat(" ", api.MaxText), api.MaxText)
	canonFails(t, strings.Repeat(" ", api.MaxText+1), api.ErrLong)
	canonBreaks(t, strings.Repeat("[", api.MaxText), api.MaxText)
	canonFails(t, strings.Repeat("[", api.MaxText+1), api.ErrLong)
	canonBreaks(t, strings.Repeat("$", api.MaxText), 0)
	canonFails(t, strings.Repeat("$", api.MaxText+1), api.ErrLong)
	canonFails(t, strings.Repeat("é", api.MaxText/2+1), api.ErrLong)
	canonFails(t, listed(api.MaxText), api.ErrLong)
}

func TestP3Big(t *testing.T) {
	canon(t, listed(api.MaxSize), listed(api.MaxSize))
	canonFails(t, listed(api.MaxSize+1), api.ErrBig)
	arrows := strings.Repeat("x->", 59) + "x"
	canon(t, "["+arrows+"]", "["+strings.Repeat("a -> ", 59)+"a]")
	canonFails(t, "[["+arrows+"]]", api.ErrBig)
	canonFails(t, arrows+"->int", api.ErrBig)
	canonFails(t, "y->"+arrows, api.ErrBig)
	canonFails(t, strings.Repeat("(a,", 61)+"a"+strings.Repeat(")", 61), api.ErrBig)
	canonFails(t, strings.Repeat("a->", 99)+"a", api.ErrBig)
}

// Each kind of type about one of the edge: which counts for how much.
func TestP3SizeOfEachKind(t *testing.T) {
	for _, c := range []struct {
		ahead, behind string
		more          int
	}{
		{"", "", 0}, {"(", ")", 0}, {"((", "))", 0}, {"[", "]", 1}, {"(", ", a)", 2}, {"(b, ", ")", 2}, {"(", ") -> int", 2}, {"bool -> ", "", 2}, {"([b], ", ")", 3}, {"(", ", a -> b)", 4}, {"((a, b) -> int) -> ", "", 6},
	} {
		if got, err := infer.Canon(c.ahead + listed(api.MaxSize-c.more) + c.behind); got == "" || err != nil {
			t.Errorf("at the edge, in %q .. %q: %q, %v", c.ahead, c.behind, got, err)
		}
		canonFails(t, c.ahead+listed(api.MaxSize-c.more+1)+c.behind, api.ErrBig)
	}
}

func TestP3BracketsHaveNoSize(t *testing.T) {
	count := (api.MaxText - 1) / 2
	canon(t, strings.Repeat("(", count)+"x"+strings.Repeat(")", count), "a")
	canon(t, "((("+listed(api.MaxSize)+")))", listed(api.MaxSize))
}

func TestP3SyntaxAheadOfSize(t *testing.T) {
	big := listed(api.MaxSize + 1)
	canonFails(t, big, api.ErrBig)
	canonBreaks(t, big+"]", len(big))
	canonBreaks(t, big+" $", len(big)+1)
	canonBreaks(t, "["+big, len(big)+1)
}

func TestP3OneTextMayBeLongerThanMaxText(t *testing.T) {
	typ := strings.Repeat("bool->", 49) + "bool"
	text := strings.Repeat("bool -> ", 49) + "bool"
	if len(typ) > api.MaxText || len(text) <= api.MaxText {
		t.Fatalf("%d bytes become %d", len(typ), len(text))
	}
	canon(t, typ, text)
}
