package infer

// exp: an expression. It is one of the types below.
type exp interface {
	depth() int
}

// part: what all expressions have. How deep one is, is kept from its making on, so that asking never walks the tree.
type part struct {
	deep int
}

func (p part) depth() int { return p.deep }

// partAbove: the part of an expression that is made of those.
func partAbove(below ...exp) part {
	deepest := 0
	for _, e := range below {
		deepest = max(deepest, e.depth())
	}
	return part{deepest + 1}
}

type (
	// nameExp: a name that is asked for, at a place of the text.
	nameExp struct {
		part
		name string
		at   int
	}

	numberExp struct {
		part
		digits string
	}

	funExp struct {
		part
		param string
		body  exp
	}

	ifExp struct {
		part
		test, yes, no exp
	}

	letExp struct {
		part
		name        string
		value, body exp
	}

	// recExp: a let rec; values[k] is what names[k] is.
	recExp struct {
		part
		names  []string
		values []exp
		body   exp
	}

	applyExp struct {
		part
		function, argument exp
	}

	pairExp struct {
		part
		first, second exp
	}
)
