package infer

// generalize makes a scheme of a type, which is not too big: those of its variables stand for any type that are not in the set. Nothing but the scheme has them, so that they can be marked for good.
func generalize(t typ, bound partSet) {
	t = known(t)
	if v, is := t.(*variable); is && !bound.has(v) {
		v.general = true
	}
	for _, b := range t.below() {
		generalize(b, bound)
	}
}

// fresh: the variables that stand in an instance for those of its scheme.
type fresh map[*variable]*variable

// instance: of a scheme that is not too big.
func (f fresh) instance(scheme typ) typ {
	switch t := known(scheme).(type) {
	case *variable:
		return f.variable(t)
	case *listType:
		return &listType{of: f.instance(t.of)}
	case *pairType:
		return &pairType{first: f.instance(t.first), second: f.instance(t.second)}
	case *arrowType:
		return &arrowType{from: f.instance(t.from), to: f.instance(t.to)}
	default:
		return t
	}
}

func (f fresh) variable(v *variable) *variable {
	if !v.general {
		return v
	}
	w, made := f[v]
	if !made {
		w = &variable{}
		f[v] = w
	}
	return w
}
