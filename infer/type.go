package infer

// typ: a type. It is one of the types below.
type typ interface {
	// below: the types right below it, in the order in which they stand.
	below() []typ
	// finding: where it is kept that it was found to be equal to another; nil for int and bool, of which nothing can be found out.
	finding() *typ
}

// found: what all types have of which something can be found out: the type that it is equal to (nil: none so far).
type found struct {
	same typ
}

func (f *found) finding() *typ { return &f.same }

type (
	// basicType: int or bool.
	basicType struct {
		name string
	}

	// variable: within one type a variable is one pointer, however often it stands there. Only those that were read have names. In a scheme the general ones stand for any type.
	variable struct {
		found
		name    string
		general bool
	}

	listType struct {
		found
		of typ
	}

	pairType struct {
		found
		first, second typ
	}

	arrowType struct {
		found
		from, to typ
	}
)

func (basicType) finding() *typ { return nil }

func (basicType) below() []typ { return nil }

func (*variable) below() []typ { return nil }

func (l *listType) below() []typ { return []typ{l.of} }

func (p *pairType) below() []typ { return []typ{p.first, p.second} }

func (a *arrowType) below() []typ { return []typ{a.from, a.to} }

// known: a type as what it was found to be. (The types below it are to be asked for likewise.)
func known(t typ) typ {
	f := t.finding()
	if f == nil || *f == nil {
		return t
	}
	// The way is kept short, since it gets longer by each thing that is found out.
	*f = known(*f)
	return *f
}

// isAbove: whether the size of a type is above most. It goes no further than it must: what has been found out may make a type too big to be gone through.
func isAbove(most int, t typ) bool {
	return roomBehind(t, most) < 0
}

// roomBehind: how much of the room is left by a type; below 0, if it has too little.
func roomBehind(t typ, room int) int {
	room--
	for _, b := range known(t).below() {
		if room < 0 {
			break
		}
		room = roomBehind(b, room)
	}
	return room
}

// partSet: types, and all that stand within them: each once, however often it stands there.
type partSet map[typ]struct{}

func (s partSet) has(t typ) bool {
	_, within := s[t]
	return within
}

func (s partSet) add(t typ) {
	t = known(t)
	if s.has(t) {
		return
	}
	s[t] = struct{}{}
	for _, b := range t.below() {
		s.add(b)
	}
}
