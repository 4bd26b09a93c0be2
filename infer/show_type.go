package infer

import (
	"strconv"
	"strings"
)

// typeWriter puts the text of a type together; how a variable is written is for the asker to say.
type typeWriter struct {
	text strings.Builder
	name func(*variable) string
}

// showType: the text of a type, in new memory.
func showType(t typ, name func(*variable) string) string {
	w := &typeWriter{name: name}
	w.typ(t)
	return w.text.String()
}

func (w *typeWriter) typ(t typ) {
	switch t := known(t).(type) {
	case basicType:
		w.text.WriteString(t.name)
	case *variable:
		w.text.WriteString(w.name(t))
	case *listType:
		w.text.WriteString("[")
		w.typ(t.of)
		w.text.WriteString("]")
	case *pairType:
		w.text.WriteString("(")
		w.typ(t.first)
		w.text.WriteString(", ")
		w.typ(t.second)
		w.text.WriteString(")")
	case *arrowType:
		w.leftSide(t.from)
		w.text.WriteString(" -> ")
		w.typ(t.to)
	}
}

// leftSide: an arrow there needs brackets, since arrows are read from the right.
func (w *typeWriter) leftSide(t typ) {
	if _, arrow := known(t).(*arrowType); !arrow {
		w.typ(t)
		return
	}
	w.text.WriteString("(")
	w.typ(t)
	w.text.WriteString(")")
}

// ownName: a variable as the text that was read has it.
func ownName(v *variable) string { return v.name }

// namesInOrder: a way to write variables: each by the next free name, when it is come to for the first time.
func namesInOrder() func(*variable) string {
	numbers := map[*variable]int{}
	return func(v *variable) string {
		n, known := numbers[v]
		if !known {
			n = len(numbers)
			numbers[v] = n
		}
		return nameByNumber(n)
	}
}

// schemeTexts: the texts of schemes that stand one behind the other. General variables are named anew in each.
func schemeTexts(schemes []typ) []string {
	texts := make([]string, len(schemes))
	own := namesInOrder()
	for k, s := range schemes {
		general := namesInOrder()
		texts[k] = showType(s, func(v *variable) string {
			if v.general {
				return general(v)
			}
			return "_" + own(v)
		})
	}
	return texts
}

// nameByNumber: a, b, .., z, a1, .., z1, a2 and so on, from 0 on.
func nameByNumber(n int) string {
	const letters = "abcdefghijklmnopqrstuvwxyz"
	k, round := n%len(letters), n/len(letters)
	name := letters[k : k+1]
	if round > 0 {
		name += strconv.Itoa(round)
	}
	return name
}
