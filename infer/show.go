package infer

import "strings"

// writer puts the one text of an expression together, token by token.
type writer struct {
	text strings.Builder
	last string
}

// show: the one text of an expression, in new memory.
func show(e exp) string {
	w := &writer{}
	w.exp(e)
	return w.text.String()
}

func (w *writer) tokens(texts ...string) {
	for _, t := range texts {
		if w.last != "" && w.last != "(" && t != ")" && t != "," {
			w.text.WriteString(" ")
		}
		w.text.WriteString(t)
		w.last = t
	}
}

func (w *writer) exp(e exp) {
	switch e := e.(type) {
	case *nameExp:
		w.tokens(e.name)
	case *numberExp:
		w.tokens(e.digits)
	case *funExp:
		w.tokens("fun", e.param, "->")
		w.exp(e.body)
	case *ifExp:
		w.ifExp(e)
	case *letExp:
		w.tokens("let", e.name, "=")
		w.exp(e.value)
		w.tokens("in")
		w.exp(e.body)
	case *recExp:
		w.recExp(e)
	case *applyExp:
		w.within(bracketsAsFunction(e.function), e.function)
		w.within(bracketsAsArgument(e.argument), e.argument)
	case *pairExp:
		w.tokens("(")
		w.exp(e.first)
		w.tokens(",")
		w.exp(e.second)
		w.tokens(")")
	}
}

func (w *writer) ifExp(e *ifExp) {
	w.tokens("if")
	w.exp(e.test)
	w.tokens("then")
	w.exp(e.yes)
	w.tokens("else")
	w.exp(e.no)
}

func (w *writer) recExp(e *recExp) {
	w.tokens("let", "rec")
	for k, name := range e.names {
		if k > 0 {
			w.tokens("and")
		}
		w.tokens(name, "=")
		w.exp(e.values[k])
	}
	w.tokens("in")
	w.exp(e.body)
}

func (w *writer) within(brackets bool, e exp) {
	if !brackets {
		w.exp(e)
		return
	}
	w.tokens("(")
	w.exp(e)
	w.tokens(")")
}

// bracketsAsFunction: an application needs none on the left, since atoms are applied from there.
func bracketsAsFunction(e exp) bool {
	switch e.(type) {
	case *funExp, *ifExp, *letExp, *recExp:
		return true
	}
	return false
}

// bracketsAsArgument: a pair brings its own.
func bracketsAsArgument(e exp) bool {
	switch e.(type) {
	case *nameExp, *numberExp, *pairExp:
		return false
	}
	return true
}
