package infer

import (
	"strings"

	"schemes/api"
)

// matching: what variables stand for, by their names, as far as it is known. Types with their own names for variables are the same just if their texts are, so texts are all that is kept.
type matching map[string]api.Typed

// match: whether special comes of general, with what is known already; it adds what this makes known.
func (m matching) match(general, special typ) bool {
	switch g := general.(type) {
	case *variable:
		return m.bind(g.name, showType(special, ownName))
	case *listType:
		s, same := special.(*listType)
		return same && m.match(g.of, s.of)
	case *pairType:
		s, same := special.(*pairType)
		return same && m.match(g.first, s.first) && m.match(g.second, s.second)
	case *arrowType:
		s, same := special.(*arrowType)
		return same && m.match(g.from, s.from) && m.match(g.to, s.to)
	}
	// What is left is int or bool, which are the same just if they are equal.
	return general == special
}

// bind: the name is copied, since the map is handed out and the name is a piece of a text that was handed in.
func (m matching) bind(name, text string) bool {
	known, bound := m[name]
	if !bound {
		m[strings.Clone(name)] = api.Typed{Type: text}
		return true
	}
	return known.Type == text
}
