package infer

// typ: a type. It is one of the types below.
type typ interface {
	// below: the types right below it, in the order in which they stand.
	below() []typ
}

type (
	// basicType: int or bool.
	basicType struct {
		name string
	}

	// variable: within one type a variable is one pointer, however often it stands there.
	variable struct {
		name string
	}

	listType struct {
		of typ
	}

	pairType struct {
		first, second typ
	}

	arrowType struct {
		from, to typ
	}
)

func (basicType) below() []typ { return nil }

func (*variable) below() []typ { return nil }

func (l *listType) below() []typ { return []typ{l.of} }

func (p *pairType) below() []typ { return []typ{p.first, p.second} }

func (a *arrowType) below() []typ { return []typ{a.from, a.to} }

func size(t typ) int {
	n := 1
	for _, b := range t.below() {
		n += size(b)
	}
	return n
}
