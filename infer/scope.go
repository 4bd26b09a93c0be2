package infer

import (
	"maps"
	"slices"
	"strings"

	"schemes/api"
)

// scope: what names stand for at a place: those of the expression, and behind them those that were handed in.
type scope struct {
	own   *binding
	given map[string]typ
}

// binding: a name of the expression, with its scheme; it hides those that are outside of it.
type binding struct {
	name    string
	scheme  typ
	param   bool
	outside *binding
}

func (s scope) with(name string, scheme typ) scope {
	return scope{&binding{name: name, scheme: scheme, outside: s.own}, s.given}
}

// withParam: with the name of a fun, whose type has variables that stand for themselves alone.
func (s scope) withParam(name string, t typ) scope {
	return scope{&binding{name: name, scheme: t, param: true, outside: s.own}, s.given}
}

// withGroup: with the names of a let rec.
func (s scope) withGroup(names []string, schemes []typ) scope {
	for k, name := range names {
		s = s.with(name, schemes[k])
	}
	return s
}

func (s scope) find(name string) (scheme typ, stands bool) {
	for b := s.own; b != nil; b = b.outside {
		if b.name == name {
			return b.scheme, true
		}
	}
	scheme, stands = s.given[name]
	return scheme, stands
}

// bound: all that stands within the types of the names of funs. No other name has a variable that is neither general nor one of theirs. Hidden names may be among them: what is typed here has no variables of theirs but those that others have as well.
func (s scope) bound() partSet {
	parts := partSet{}
	for b := s.own; b != nil; b = b.outside {
		if b.param {
			parts.add(b.scheme)
		}
	}
	return parts
}

// givenScope: the names that were handed in, or the error for the least that is none, or whose type is none.
func givenScope(env map[string]api.Typed) (scope, error) {
	given := map[string]typ{}
	for _, name := range slices.Sorted(maps.Keys(env)) {
		if !isName(name) {
			return scope{}, &api.EnvError{Name: strings.Clone(name)}
		}
		t, err := parseType(env[name].Type)
		if err != nil {
			return scope{}, &api.EnvError{Name: strings.Clone(name), Why: err}
		}
		generalize(t, partSet{})
		given[name] = t
	}
	return scope{given: given}, nil
}

// checkNames refuses the first name of an expression that stands for nothing.
func checkNames(e exp, names scope) {
	switch e := e.(type) {
	case *nameExp:
		if _, stands := names.find(e.name); !stands {
			refuse(&api.UnboundError{At: e.at, Name: strings.Clone(e.name)})
		}
	case *funExp:
		checkNames(e.body, names.with(e.param, nil))
	case *ifExp:
		checkNames(e.test, names)
		checkNames(e.yes, names)
		checkNames(e.no, names)
	case *letExp:
		checkNames(e.value, names)
		checkNames(e.body, names.with(e.name, nil))
	case *recExp:
		checkNamesOfGroup(e, names)
	case *applyExp:
		checkNames(e.function, names)
		checkNames(e.argument, names)
	case *pairExp:
		checkNames(e.first, names)
		checkNames(e.second, names)
	}
}

func checkNamesOfGroup(e *recExp, names scope) {
	names = names.withGroup(e.names, make([]typ, len(e.names)))
	for _, value := range e.values {
		checkNames(value, names)
	}
	checkNames(e.body, names)
}
