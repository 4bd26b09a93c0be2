package infer

import "schemes/api"

// typeOfText: the type of the expression that a text is, or the error that Infer tells.
func typeOfText(src string, env map[string]api.Typed, fuel int) (t typ, err error) {
	defer func() {
		if thrown := recover(); thrown != nil {
			t, err = nil, refused(thrown)
		}
	}()
	e, err := parse(src)
	if err != nil {
		return nil, err
	}
	if fuel < 1 || fuel > api.MaxFuel {
		return nil, api.ErrArg
	}
	names, err := givenScope(env)
	if err != nil {
		return nil, err
	}
	checkNames(e, names)
	return typeOf(e, names), nil
}

// typeOf: the type of a part, all of whose names stand for something.
func typeOf(e exp, names scope) typ {
	t := typeByKind(e, names)
	refuseBig(t)
	return t
}

func refuseBig(t typ) {
	if isAbove(api.MaxSize, t) {
		refuse(api.ErrBig)
	}
}

func typeByKind(e exp, names scope) typ {
	switch e := e.(type) {
	case *nameExp:
		return typeOfName(e, names)
	case *funExp:
		param := &variable{}
		return &arrowType{from: param, to: typeOf(e.body, names.with(e.param, param))}
	case *ifExp:
		return typeOfIf(e, names)
	case *letExp:
		value := typeOf(e.value, names)
		generalize(value, names.bound())
		return typeOf(e.body, names.with(e.name, value))
	case *applyExp:
		return typeOfApply(e, names)
	case *pairExp:
		first := typeOf(e.first, names)
		return &pairType{first: first, second: typeOf(e.second, names)}
	case *recExp:
		// No rounds are gone through yet, so that there are never enough.
		refuse(api.ErrFuel)
	}
	// What is left is a number.
	return basicType{"int"}
}

func typeOfName(e *nameExp, names scope) typ {
	scheme, _ := names.find(e.name)
	// An instance is as big as its scheme: one that is too big is not to be made.
	refuseBig(scheme)
	return fresh{}.instance(scheme)
}

func typeOfIf(e *ifExp, names scope) typ {
	makeEqual(typeOf(e.test, names), basicType{"bool"})
	yes := typeOf(e.yes, names)
	makeEqual(yes, typeOf(e.no, names))
	return yes
}

func typeOfApply(e *applyExp, names scope) typ {
	function := typeOf(e.function, names)
	result := &variable{}
	makeEqual(function, &arrowType{from: typeOf(e.argument, names), to: result})
	return result
}
