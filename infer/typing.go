package infer

import "schemes/api"

// typing: how an expression is typed: with how many rounds for each group, and who is told of them (nil: nobody).
type typing struct {
	fuel    int
	watcher func(names []string, round int, schemes []string) bool
}

// typeOfText: the type of the expression that a text is, or the error that Infer tells.
func (by typing) typeOfText(src string, env map[string]api.Typed) (t typ, err error) {
	defer func() {
		if thrown := recover(); thrown != nil {
			t, err = nil, refused(thrown)
		}
	}()
	e, err := parse(src)
	if err != nil {
		return nil, err
	}
	if by.fuel < 1 || by.fuel > api.MaxFuel {
		return nil, api.ErrArg
	}
	names, err := givenScope(env)
	if err != nil {
		return nil, err
	}
	checkNames(e, names)
	return by.typeOf(e, names), nil
}

// typeOf: the type of a part, all of whose names stand for something.
func (by typing) typeOf(e exp, names scope) typ {
	t := by.typeByKind(e, names)
	refuseBig(t)
	return t
}

func refuseBig(t typ) {
	if isAbove(api.MaxSize, t) {
		refuse(api.ErrBig)
	}
}

func (by typing) typeByKind(e exp, names scope) typ {
	switch e := e.(type) {
	case *nameExp:
		return typeOfName(e, names)
	case *funExp:
		param := &variable{}
		return &arrowType{from: param, to: by.typeOf(e.body, names.withParam(e.param, param))}
	case *ifExp:
		return by.typeOfIf(e, names)
	case *letExp:
		value := by.typeOf(e.value, names)
		generalize(value, names.bound())
		return by.typeOf(e.body, names.with(e.name, value))
	case *applyExp:
		return by.typeOfApply(e, names)
	case *pairExp:
		first := by.typeOf(e.first, names)
		return &pairType{first: first, second: by.typeOf(e.second, names)}
	case *recExp:
		return by.typeOfGroup(e, names)
	}
	// What is left is a number.
	return basicType{"int"}
}

func typeOfName(e *nameExp, names scope) typ {
	scheme, _ := names.find(e.name)
	// An instance is as big as its scheme: one that is too big is not to be made.
	refuseBig(scheme)
	return fresh{}.instance(scheme)
}

func (by typing) typeOfIf(e *ifExp, names scope) typ {
	makeEqual(by.typeOf(e.test, names), basicType{"bool"})
	yes := by.typeOf(e.yes, names)
	makeEqual(yes, by.typeOf(e.no, names))
	return yes
}

func (by typing) typeOfApply(e *applyExp, names scope) typ {
	function := by.typeOf(e.function, names)
	result := &variable{}
	makeEqual(function, &arrowType{from: by.typeOf(e.argument, names), to: result})
	return result
}
