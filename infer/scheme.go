package infer

// generalize makes a scheme of a type: those of its variables stand for any type that are not in the set. Nothing but the scheme has them, so that they can be marked for good.
func generalize(t typ, bound partSet) {
	t = known(t)
	// All that stands within a type of the set is in the set as well. It may be too big to be gone through.
	if bound.has(t) {
		return
	}
	if v, is := t.(*variable); is {
		v.general = true
	}
	for _, b := range t.below() {
		generalize(b, bound)
	}
}

// fresh: the variables that stand in an instance for those of its scheme.
type fresh map[*variable]*variable

// instance: of a scheme that is not too big.
func (f fresh) instance(scheme typ) typ {
	switch t := known(scheme).(type) {
	case *variable:
		return f.variable(t)
	case *listType:
		return &listType{of: f.instance(t.of)}
	case *pairType:
		return &pairType{first: f.instance(t.first), second: f.instance(t.second)}
	case *arrowType:
		return &arrowType{from: f.instance(t.from), to: f.instance(t.to)}
	default:
		return t
	}
}

func (f fresh) variable(v *variable) *variable {
	if !v.general {
		return v
	}
	w, made := f[v]
	if !made {
		w = &variable{}
		f[v] = w
	}
	return w
}

// sameSchemes: whether each is the other, but for the names of its general variables.
func sameSchemes(some, others []typ) bool {
	for k, s := range some {
		if !(pairing{}).same(s, others[k]) {
			return false
		}
	}
	return true
}

// pairing: which general variable of one scheme is which of another, both ways.
type pairing map[*variable]*variable

// same: of two schemes that have no general variables in common. Types that are one thus have none, and need not be gone through; they may be too big for it.
func (p pairing) same(x, y typ) bool {
	x, y = known(x), known(y)
	if x == y {
		return true
	}
	if v, is := x.(*variable); is {
		w, isToo := y.(*variable)
		return isToo && v.general && w.general && p.pair(v, w)
	}
	if !alike(x, y) {
		return false
	}
	others := y.below()
	for k, b := range x.below() {
		if !p.same(b, others[k]) {
			return false
		}
	}
	return true
}

// pair: whether the two are paired, or are from now on, since neither is with another.
func (p pairing) pair(v, w *variable) bool {
	if p[v] == nil && p[w] == nil {
		p[v], p[w] = w, v
	}
	return p[v] == w
}
