package infer

import (
	"slices"

	"schemes/api"
)

// expReader reads the text of an expression.
type expReader struct {
	*reader
}

// parse: the expression that a text is, or the error that Show tells of it.
func parse(src string) (e exp, err error) {
	defer func() {
		if thrown := recover(); thrown != nil {
			e, err = nil, refused(thrown)
		}
	}()
	r := expReader{newReader(src)}
	e = r.exp()
	r.expectEnding()
	// Only now: a fault of the text is told ahead of its depth, wherever it stands.
	if e.depth() > api.MaxDepth {
		refuse(api.ErrDeep)
	}
	return e, nil
}

func isKeyword(text string) bool {
	switch text {
	case "fun", "let", "rec", "and", "in", "if", "then", "else":
		return true
	}
	return false
}

// isName: whether a whole text is a name.
func isName(text string) bool {
	return text != "" && len(text) <= api.MaxName && isLetter(text[0]) && leading(text, isLetterOrDigit) == len(text) && !isKeyword(text)
}

func (r expReader) atName() bool {
	return r.next.kind == word && !isKeyword(r.next.text)
}

// newName reads a name that is none of those.
func (r expReader) newName(taken ...string) string {
	name := r.next.text
	if !r.atName() || slices.Contains(taken, name) {
		r.refuse()
	}
	r.advance()
	return name
}

func (r expReader) exp() exp {
	switch {
	case r.is("fun"):
		return r.funExp()
	case r.is("if"):
		return r.ifExp()
	case r.is("let"):
		return r.anyLet()
	}
	return r.atoms()
}

func (r expReader) funExp() exp {
	r.expect("fun")
	param := r.newName()
	r.expect("->")
	body := r.exp()
	return &funExp{partAbove(body), param, body}
}

func (r expReader) ifExp() exp {
	r.expect("if")
	test := r.exp()
	r.expect("then")
	yes := r.exp()
	r.expect("else")
	no := r.exp()
	return &ifExp{partAbove(test, yes, no), test, yes, no}
}

func (r expReader) anyLet() exp {
	r.expect("let")
	if r.is("rec") {
		return r.recExp()
	}
	name := r.newName()
	r.expect("=")
	value := r.exp()
	r.expect("in")
	body := r.exp()
	return &letExp{partAbove(value, body), name, value, body}
}

func (r expReader) recExp() exp {
	r.expect("rec")
	var names []string
	var values []exp
	for {
		names = append(names, r.newName(names...))
		r.expect("=")
		values = append(values, r.exp())
		if !r.is("and") {
			break
		}
		r.advance()
	}
	r.expect("in")
	body := r.exp()
	below := slices.Concat(values, []exp{body})
	return &recExp{partAbove(below...), names, values, body}
}

func (r expReader) atoms() exp {
	e := r.atom()
	for r.atAtom() {
		argument := r.atom()
		e = &applyExp{partAbove(e, argument), e, argument}
	}
	return e
}

func (r expReader) atAtom() bool {
	return r.atName() || r.next.kind == number || r.is("(")
}

func (r expReader) atom() exp {
	if !r.atAtom() {
		r.refuse()
	}
	t := r.next
	r.advance()
	switch t.kind {
	case word:
		return &nameExp{partAbove(), t.text, t.at}
	case number:
		return &numberExp{partAbove(), t.text}
	}
	return r.bracketed()
}

// bracketed reads on behind an opening bracket.
func (r expReader) bracketed() exp {
	e := r.exp()
	if r.is(",") {
		r.advance()
		second := r.exp()
		e = &pairExp{partAbove(e, second), e, second}
	}
	r.expect(")")
	return e
}
