package infer

import "schemes/api"

// typeReader reads the text of one type; the variables are those that it has come to, by their names.
type typeReader struct {
	*reader
	variables map[string]*variable
}

// parseType: the type that a text is, or the error that Canon tells of it.
func parseType(src string) (t typ, err error) {
	defer func() {
		if thrown := recover(); thrown != nil {
			t, err = nil, refused(thrown)
		}
	}()
	r := typeReader{newReader(src), map[string]*variable{}}
	t = r.typ()
	r.expectEnding()
	// Only now: a fault of the text is told ahead of its size, wherever it stands.
	if isAbove(api.MaxSize, t) {
		refuse(api.ErrBig)
	}
	return t, nil
}

func (r typeReader) typ() typ {
	left := r.one()
	if !r.is("->") {
		return left
	}
	r.advance()
	return &arrowType{from: left, to: r.typ()}
}

func (r typeReader) one() typ {
	t := r.next
	switch {
	case r.is("int"), r.is("bool"):
		r.advance()
		return basicType{t.text}
	case t.kind == word:
		r.advance()
		return r.variable(t.text)
	case r.is("["):
		return r.list()
	case r.is("("):
		return r.bracketed()
	}
	r.refuse()
	return nil
}

func (r typeReader) variable(name string) *variable {
	v, known := r.variables[name]
	if !known {
		v = &variable{name: name}
		r.variables[name] = v
	}
	return v
}

func (r typeReader) list() typ {
	r.expect("[")
	of := r.typ()
	r.expect("]")
	return &listType{of: of}
}

func (r typeReader) bracketed() typ {
	r.expect("(")
	t := r.typ()
	if r.is(",") {
		r.advance()
		t = &pairType{first: t, second: r.typ()}
	}
	r.expect(")")
	return t
}
