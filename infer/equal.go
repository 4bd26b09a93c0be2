package infer

import "schemes/api"

// makeEqual makes two types equal in the most general way, and refuses them if there is none.
func makeEqual(x, y typ) {
	x, y = known(x), known(y)
	if x == y {
		return
	}
	if v, is := x.(*variable); is {
		v.become(y)
		return
	}
	if v, is := y.(*variable); is {
		v.become(x)
		return
	}
	makeBelowEqual(x, y)
	// From now on the two are one, so that they are gone through no more: types that stand within each other again and again would take for ever.
	*x.finding() = y
}

// become: the variable is another type from now on, which must not have it within.
func (v *variable) become(t typ) {
	parts := partSet{}
	parts.add(t)
	if parts.has(v) {
		refuse(api.ErrType)
	}
	v.same = t
}

// makeBelowEqual: of two different types, neither of which is a variable.
func makeBelowEqual(x, y typ) {
	if !alike(x, y) {
		refuse(api.ErrType)
	}
	others := y.below()
	for k, b := range x.below() {
		makeEqual(b, others[k])
	}
}

// alike: whether both are lists, pairs or functions.
func alike(x, y typ) bool {
	same := false
	switch x.(type) {
	case *listType:
		_, same = y.(*listType)
	case *pairType:
		_, same = y.(*pairType)
	case *arrowType:
		_, same = y.(*arrowType)
	}
	return same
}
