package infer_test

import (
	"errors"
	"strings"
	"testing"

	"schemes/api"
	"schemes/infer"
)

// shows: that Show answers that text.
func shows(t *testing.T, src, want string) {
	t.Helper()
	if got, err := infer.Show(src); got != want || err != nil {
		t.Errorf("Show(%q) = %q, %v, want %q", src, got, err, want)
	}
}

// breaks: that Show answers a *SyntaxError at that place.
func breaks(t *testing.T, src string, at int) {
	t.Helper()
	got, err := infer.Show(src)
	var s *api.SyntaxError
	if got != "" || !errors.As(err, &s) || s.At != at {
		t.Errorf("Show(%q) = %q, %v, want a syntax error at %d", src, got, err, at)
	}
}

// fails: that Show answers that error.
func fails(t *testing.T, src string, want error) {
	t.Helper()
	if got, err := infer.Show(src); got != "" || !errors.Is(err, want) {
		t.Errorf("Show(%.60q) (of %d bytes) = %q, %v, want %v", src, len(src), got, err, want)
	}
}

// nested: f (f (.. x)), so deep.
func nested(depth int) string {
	return strings.Repeat("f(", depth-1) + "x" + strings.Repeat(")", depth-1)
}

func TestP2ExamplesOfTheDocument(t *testing.T) {
	shows(t, "fun x->x", "fun x -> x")
	shows(t, "fun f -> fun g -> fun x -> f (g x)", "fun f -> fun g -> fun x -> f (g x)")
	shows(t, "(1,(true))", "(1, true)")
	breaks(t, "", 0)
	breaks(t, "(x, y, z)", 5)
	breaks(t, "f fun x -> x", 2)
	breaks(t, "let rec f = 1 and f = 2 in 1", 18)
	breaks(t, "abcdefghi", 0)
	breaks(t, "a - b", 2)
}

func TestP2Blanks(t *testing.T) {
	shows(t, " \n x \n\n", "x")
	shows(t, "f\n(\nx\n,\ny\n)", "f (x, y)")
	shows(t, "(1,2)(3,4)", "(1, 2) (3, 4)")
	shows(t, "((1 , 2) , (3 , 4))", "((1, 2), (3, 4))")
	shows(t, "fun x->(fun y->y)x", "fun x -> (fun y -> y) x")
	shows(t, "if(a)then(b)else(c)", "if a then b else c")
	shows(t, "let x=1in x", "let x = 1 in x")
	shows(t, "let rec f=1and g=2in 3", "let rec f = 1 and g = 2 in 3")
	shows(t, "let rec f=(g)and g=(f)and h=((f,g))in(h)", "let rec f = g and g = f and h = (f, g) in h")
	shows(t, "f 1x", "f 1 x")
	shows(t, "007", "007")
}

func TestP2OneTextMayBeLongerThanMaxText(t *testing.T) {
	src := strings.Repeat("fun x->", api.MaxDepth-1) + "x"
	text := strings.Repeat("fun x -> ", api.MaxDepth-1) + "x"
	if len(src) > api.MaxText || len(text) <= api.MaxText {
		t.Fatalf("%d bytes become %d", len(src), len(text))
	}
	shows(t, src, text)
	fails(t, text, api.ErrLong)
}

func TestP2Brackets(t *testing.T) {
	for _, open := range []string{"fun x -> x", "if a then b else c", "let x = 1 in x", "let rec x = 1 in x"} {
		shows(t, "("+open+")", open)
		shows(t, "(("+open+"))y", "("+open+") y")
		shows(t, "(("+open+"))y z", "("+open+") y z")
		shows(t, "f(("+open+"))", "f ("+open+")")
		shows(t, "f(("+open+"))y", "f ("+open+") y")
		shows(t, "("+open+",("+open+"))", "("+open+", "+open+")")
		shows(t, "fun y->("+open+")", "fun y -> "+open)
		shows(t, "if("+open+")then("+open+")else("+open+")", "if "+open+" then "+open+" else "+open)
		shows(t, "let y=("+open+")in("+open+")", "let y = "+open+" in "+open)
		shows(t, "let rec y=("+open+")and z=("+open+")in("+open+")", "let rec y = "+open+" and z = "+open+" in "+open)
	}
	shows(t, "(((f) (x)) (y)) ((z))", "f x y z")
	shows(t, "f (x) (y z) (1)", "f x (y z) 1")
	shows(t, "(f (x y)) (z)", "f (x y) z")
	shows(t, "f ((x, y)) ((1))", "f (x, y) 1")
	shows(t, "((x, y)) z", "(x, y) z")
	shows(t, "(1) (2)", "1 2")
	shows(t, "(f x, (g y))", "(f x, g y)")
	shows(t, "fun x -> (f x)", "fun x -> f x")
}

func TestP2BracketsThatDecide(t *testing.T) {
	shows(t, "(fun x -> x) y", "(fun x -> x) y")
	shows(t, "fun x -> (x y)", "fun x -> x y")
	shows(t, "(let x = 1 in x) y", "(let x = 1 in x) y")
	shows(t, "let x = 1 in (x y)", "let x = 1 in x y")
	shows(t, "let rec f = (let rec g = 1 in 2) and h = 3 in 4", "let rec f = let rec g = 1 in 2 and h = 3 in 4")
	shows(t, "let rec f = let rec g = 1 and h = 3 in 2 in 4", "let rec f = let rec g = 1 and h = 3 in 2 in 4")
}

func TestP2TokensThatAreNone(t *testing.T) {
	for c := range 256 {
		s := string([]byte{byte(c)})
		if strings.Contains("abcdefghijklmnopqrstuvwxyz0123456789=(),[] \n", s) {
			continue
		}
		breaks(t, s, 0)
		breaks(t, "  "+s+" x", 2)
		breaks(t, "x"+s, 1)
		breaks(t, "f x "+s+"y", 4)
		breaks(t, "fun x -> \n"+s, 10)
	}
	breaks(t, "fun x - > x", 6)
	breaks(t, "fun x >- x", 6)
	breaks(t, "fun x --> x", 6)
	breaks(t, "fun x ->- x", 8)
	breaks(t, "x é", 2)
	breaks(t, "X", 0)
	breaks(t, "aX", 1)
	breaks(t, "x_y", 1)
}

func TestP2TokensThatCannotStandThere(t *testing.T) {
	for _, s := range []string{"->", "=", ")", ",", "[", "]", "rec", "and", "in", "then", "else"} {
		breaks(t, s, 0)
		breaks(t, "x "+s, 2)
		breaks(t, "fun "+s, 4)
		breaks(t, "(  "+s, 3)
		breaks(t, "if "+s, 3)
		breaks(t, "let x = "+s, 8)
		breaks(t, "let rec "+s, 8)
		breaks(t, "let rec f = 1 and "+s, 18)
	}
	for _, s := range []string{"fun", "let", "if"} {
		breaks(t, "x "+s, 2)
		breaks(t, "fun "+s, 4)
		breaks(t, "(x) "+s, 4)
		breaks(t, "let "+s, 4)
		breaks(t, "let rec "+s, 8)
	}
	breaks(t, "fun x y -> x", 6)
	breaks(t, "fun (x) -> x", 4)
	breaks(t, "fun x = x", 6)
	breaks(t, "let 1 = x in x", 4)
	breaks(t, "let f x = x in f", 6)
	breaks(t, "let x -> 1 in x", 6)
	breaks(t, "let x = 1 and y = 2 in x", 10)
	breaks(t, "let rec 1 = x in x", 8)
	breaks(t, "let rec f = 1, g = 2 in f", 13)
	breaks(t, "if x else y", 5)
	breaks(t, "if x then y in z", 12)
	breaks(t, "(x]", 2)
	breaks(t, "(,x)", 1)
	breaks(t, "(x,)", 3)
	breaks(t, "()", 1)
	breaks(t, "f ()", 3)
	breaks(t, "(x))", 3)
	breaks(t, "x, y", 1)
}

func TestP2FirstFaultIsTold(t *testing.T) {
	breaks(t, "x ) $", 2)
	breaks(t, "x $ )", 2)
	breaks(t, "let rec f = 1 and f $", 18)
	breaks(t, "let rec f = 1 and $ f", 18)
	breaks(t, "f abcdefghi )", 2)
	breaks(t, ") abcdefghi", 0)
	breaks(t, "(x, y, $", 5)
}

func TestP2TextsThatEndTooSoon(t *testing.T) {
	for _, s := range []string{
		"", " ", "\n\n ", "fun", "fun x", "fun x ->", "fun x -> ", "if", "if x", "if x then", "if x then y", "if x then y else", "if x then y else\n",
		"let", "let x", "let x =", "let x = 1", "let x = 1 in", "let rec", "let rec f", "let rec f =", "let rec f = 1", "let rec f = 1 and", "let rec f = 1 and g", "let rec f = 1 and g =", "let rec f = 1 and g = 2", "let rec f = 1 and g = 2 in  ",
		"(", "(x", "(x,", "(x, y", "((x, y)", "f (", "f (x ",
	} {
		breaks(t, s, len(s))
	}
}

func TestP2NamesAndNumbersAtTheEdge(t *testing.T) {
	for _, s := range []string{"abcdefgh", "a1234567", "zzzzzzz9", "12345678", "00000000"} {
		if len(s) != api.MaxName {
			t.Fatalf("%q is not at the edge", s)
		}
		shows(t, s, s)
		shows(t, "f "+s+" x", "f "+s+" x")
		breaks(t, s+"1", 0)
		breaks(t, "f  "+s+"1 x", 3)
	}
	for _, s := range []string{"abcdefgh", "a1234567"} {
		shows(t, "fun "+s+"->x", "fun "+s+" -> x")
		shows(t, "let "+s+"=1 in "+s, "let "+s+" = 1 in "+s)
		shows(t, "let rec "+s+"=1 in "+s, "let rec "+s+" = 1 in "+s)
		breaks(t, "fun "+s+"a->x", 4)
		breaks(t, "let "+s+"a=1 in x", 4)
		breaks(t, "let rec "+s+"a=1 in x", 8)
		breaks(t, s+"z", 0)
	}
	shows(t, "12345678x", "12345678 x")
	shows(t, "12345678abcdefgh", "12345678 abcdefgh")
	breaks(t, "12345678abcdefghi", 8)
	breaks(t, "123456789x", 0)
	breaks(t, strings.Repeat("a", api.MaxText), 0)
	breaks(t, strings.Repeat("1", api.MaxText), 0)
}

func TestP2Keywords(t *testing.T) {
	for _, k := range []string{"fun", "let", "rec", "and", "in", "if", "then", "else"} {
		breaks(t, "f "+k, 2)
		breaks(t, "fun "+k+" -> x", 4)
		breaks(t, "let rec "+k+" = 1 in x", 8)
		breaks(t, "let rec f = 1 and "+k+" = 1 in x", 18)
		shows(t, k+"s", k+"s")
		shows(t, k+"1", k+"1")
		shows(t, "x"+k, "x"+k)
		shows(t, "fun "+k+"x->1"+k+"x", "fun "+k+"x -> 1 "+k+"x")
	}
	for _, k := range []string{"fun", "let", "and", "in", "if", "then", "else"} {
		breaks(t, "let "+k+" = 1 in x", 4)
	}
	breaks(t, "let rec = 1 in x", 8)
	for _, name := range []string{"int", "bool", "true", "letrec", "of", "or"} {
		shows(t, name, name)
		shows(t, "fun "+name+"->"+name, "fun "+name+" -> "+name)
	}
}

func TestP2NamesOfAGroupAreDifferent(t *testing.T) {
	breaks(t, "let rec f = 1 and g = 2 and f = 3 in 1", 28)
	breaks(t, "let rec f = 1 and g = 2 and g = 3 in 1", 28)
	breaks(t, "let rec f = 1 and g = let rec h = 1 and h = 2 in 3 in 1", 40)
	breaks(t, "let rec f = let rec g = 1 in g and g = 2 and f = 3 in 1", 45)
	shows(t, "let rec f = let rec f = 1 in f and g = let rec f = 2 and g = 3 in f in f", "let rec f = let rec f = 1 in f and g = let rec f = 2 and g = 3 in f in f")
	shows(t, "let rec f = 1 in let rec f = 2 in f", "let rec f = 1 in let rec f = 2 in f")
	shows(t, "let rec f = fun f -> let f = f in f and f1 = f in f", "let rec f = fun f -> let f = f in f and f1 = f in f")
	shows(t, "fun x -> fun x -> x", "fun x -> fun x -> x")
}

func TestP2Long(t *testing.T) {
	for _, c := range []struct{ begin, fill, text string }{{"x", " ", "x"}, {"x", "\n", "x"}, {"(f 1)", " ", "f 1"}} {
		src := c.begin + strings.Repeat(c.fill, api.MaxText-len(c.begin))
		shows(t, src, c.text)
		fails(t, src+c.fill, api.ErrLong)
		fails(t, c.fill+src, api.ErrLong)
	}
	breaks(t, strings.Repeat(" ", api.MaxText), api.MaxText)
	fails(t, strings.Repeat(" ", api.MaxText+1), api.ErrLong)
	breaks(t, strings.Repeat("(", api.MaxText), api.MaxText)
	fails(t, strings.Repeat("(", api.MaxText+1), api.ErrLong)
	breaks(t, strings.Repeat("$", api.MaxText), 0)
	fails(t, strings.Repeat("$", api.MaxText+1), api.ErrLong)
	fails(t, strings.Repeat("é", api.MaxText/2+1), api.ErrLong)
	fails(t, nested(api.MaxText), api.ErrLong)
}

func TestP2DeepByEachKindOfPart(t *testing.T) {
	for _, c := range []struct{ ahead, behind string }{
		{"fun x -> ", ""},
		{"if ", " then 1 else 2"}, {"if 1 then ", " else 2"}, {"if 1 then 2 else ", ""},
		{"let x = ", " in 1"}, {"let x = 1 in ", ""},
		{"let rec x = ", " in 1"}, {"let rec x = ", " and y = 1 in 2"}, {"let rec x = 1 and y = ", " in 2"}, {"let rec x = 1 and y = 2 in ", ""},
		{"(", ") x"}, {"x (", ")"}, {"(", ", 1)"}, {"(1, ", ")"},
	} {
		if got, err := infer.Show(c.ahead + nested(api.MaxDepth-1) + c.behind); got == "" || err != nil {
			t.Errorf("at the edge, in %q .. %q: %q, %v", c.ahead, c.behind, got, err)
		}
		fails(t, c.ahead+nested(api.MaxDepth)+c.behind, api.ErrDeep)
	}
}

func TestP2Deep(t *testing.T) {
	row := strings.TrimSuffix(strings.Repeat("x ", api.MaxDepth), " ")
	shows(t, row, row)
	fails(t, row+" x", api.ErrDeep)
	funs := strings.Repeat("fun x->", api.MaxDepth-1)
	shows(t, funs+"x", strings.Repeat("fun x -> ", api.MaxDepth-1)+"x")
	fails(t, funs+"fun x->x", api.ErrDeep)
	fails(t, funs+"x x", api.ErrDeep)
	fails(t, funs+"(x, x)", api.ErrDeep)
	shows(t, funs+"(((x)))", strings.Repeat("fun x -> ", api.MaxDepth-1)+"x")
	brackets := (api.MaxText - 1) / 2
	shows(t, strings.Repeat("(", brackets)+"x"+strings.Repeat(")", brackets), "x")
	fails(t, nested(99), api.ErrDeep)
}

func TestP2SyntaxAheadOfDepth(t *testing.T) {
	deep := nested(api.MaxDepth + 1)
	fails(t, deep, api.ErrDeep)
	breaks(t, deep+")", len(deep))
	breaks(t, deep+" $", len(deep)+1)
	breaks(t, "("+deep, len(deep)+1)
}
