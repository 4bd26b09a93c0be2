package infer

import (
	"math"
	"strconv"
	"strings"
)

// typeText: the text of a type, as the steps by which it is made; how a variable is written is for the asker to say. What has been found out may let one type stand in another more often than can be gone through, so each is laid out once and copied from then on, and the length is known ahead of the making.
type typeText struct {
	name   func(*variable) string
	steps  []step
	length int64
	pieces map[typ]piece
}

// step: what comes next in a text: tokens, or, if there are none, a piece that stands in it already.
type step struct {
	tokens string
	copied piece
}

// piece: from which byte of a text to ahead of which one.
type piece struct {
	from, to int64
}

// mostBytes: how long the texts of a round may be: what an int counts on every machine, since a text's length is one. Some line must be drawn: there are texts that no memory holds, and asking for that much cannot be recovered from.
const mostBytes = math.MaxInt32

// layOut: the text of a type, ahead of its making.
func layOut(t typ, name func(*variable) string) *typeText {
	text := &typeText{name: name, pieces: map[typ]piece{}}
	text.typ(t)
	return text
}

// showType: the text of a type that is not too big, in new memory.
func showType(t typ, name func(*variable) string) string {
	return layOut(t, name).written()
}

// written: the text itself, which must not be too long.
func (x *typeText) written() string {
	var text strings.Builder
	text.Grow(int(x.length))
	for _, s := range x.steps {
		if s.tokens == "" {
			s.tokens = text.String()[s.copied.from:s.copied.to]
		}
		text.WriteString(s.tokens)
	}
	return text.String()
}

func (x *typeText) tokens(tokens string) {
	x.steps = append(x.steps, step{tokens: tokens})
	x.lengthen(int64(len(tokens)))
}

func (x *typeText) again(p piece) {
	x.steps = append(x.steps, step{copied: p})
	x.lengthen(p.to - p.from)
}

// lengthen goes no further than it must: a text that is too long may be longer than any number counts.
func (x *typeText) lengthen(by int64) {
	x.length = min(x.length+by, mostBytes+1)
}

// typ: within one text the variables of a type have the same names wherever it stands, so that its text is the same there.
func (x *typeText) typ(t typ) {
	t = known(t)
	if p, stands := x.pieces[t]; stands {
		x.again(p)
		return
	}
	from := x.length
	x.first(t)
	x.pieces[t] = piece{from, x.length}
}

// first: a type where it stands for the first time.
func (x *typeText) first(t typ) {
	switch t := t.(type) {
	case basicType:
		x.tokens(t.name)
	case *variable:
		x.tokens(x.name(t))
	case *listType:
		x.tokens("[")
		x.typ(t.of)
		x.tokens("]")
	case *pairType:
		x.tokens("(")
		x.typ(t.first)
		x.tokens(", ")
		x.typ(t.second)
		x.tokens(")")
	case *arrowType:
		x.leftSide(t.from)
		x.tokens(" -> ")
		x.typ(t.to)
	}
}

// leftSide: an arrow there needs brackets, since arrows are read from the right.
func (x *typeText) leftSide(t typ) {
	if _, arrow := known(t).(*arrowType); !arrow {
		x.typ(t)
		return
	}
	x.tokens("(")
	x.typ(t)
	x.tokens(")")
}

// ownName: a variable as the text that was read has it.
func ownName(v *variable) string { return v.name }

// namesInOrder: a way to write variables: each by the next free name, when it is come to for the first time.
func namesInOrder() func(*variable) string {
	numbers := map[*variable]int{}
	return func(v *variable) string {
		n, known := numbers[v]
		if !known {
			n = len(numbers)
			numbers[v] = n
		}
		return nameByNumber(n)
	}
}

// layOutSchemes: the texts of schemes that stand one behind the other. General variables are named anew in each.
func layOutSchemes(schemes []typ) []*typeText {
	texts := make([]*typeText, len(schemes))
	own := namesInOrder()
	for k, s := range schemes {
		general := namesInOrder()
		texts[k] = layOut(s, func(v *variable) string {
			if v.general {
				return general(v)
			}
			return "_" + own(v)
		})
	}
	return texts
}

// areTooLong: whether texts have more bytes, in all, than may be made at once.
func areTooLong(texts []*typeText) bool {
	length := int64(0)
	for _, x := range texts {
		length += x.length
	}
	return length > mostBytes
}

// nameByNumber: a, b, .., z, a1, .., z1, a2 and so on, from 0 on.
func nameByNumber(n int) string {
	const letters = "abcdefghijklmnopqrstuvwxyz"
	k, round := n%len(letters), n/len(letters)
	name := letters[k : k+1]
	if round > 0 {
		name += strconv.Itoa(round)
	}
	return name
}
