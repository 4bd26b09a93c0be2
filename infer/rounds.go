package infer

import (
	"strings"

	"schemes/api"
)

// typeOfGroup: the type of a let rec.
func (by typing) typeOfGroup(e *recExp, names scope) typ {
	schemes := by.lastSchemes(e, names)
	return by.typeOf(e.body, names.withGroup(e.names, schemes))
}

// lastSchemes: the schemes of a group's names behind the last round.
func (by typing) lastSchemes(e *recExp, names scope) []typ {
	schemes := anyTypes(len(e.names))
	for round := 1; ; round++ {
		ahead := schemes
		schemes = by.round(e, names.withGroup(e.names, ahead), names)
		by.tell(e.names, round, schemes)
		if sameSchemes(ahead, schemes) {
			return schemes
		}
		if round == by.fuel {
			refuse(api.ErrFuel)
		}
	}
}

// anyTypes: so many schemes 'any type'.
func anyTypes(count int) []typ {
	schemes := make([]typ, count)
	for k := range schemes {
		schemes[k] = &variable{general: true}
	}
	return schemes
}

// round: the new schemes of a group's names, by what names stand for within the group, and outside of it.
func (by typing) round(e *recExp, within, outside scope) []typ {
	schemes := make([]typ, len(e.values))
	for k, value := range e.values {
		schemes[k] = by.typeOf(value, within)
	}
	bound := outside.bound()
	for _, s := range schemes {
		generalize(s, bound)
	}
	return schemes
}

// tell: the watcher, if there is one, is told of a round, and may stop all. What later bodies find out may make a scheme bigger than any memory, since only the next part that has such a type is refused: a round whose texts cannot be made is passed over, so that the call still ends.
func (by typing) tell(names []string, round int, schemes []typ) {
	if by.watcher == nil {
		return
	}
	texts := layOutSchemes(schemes)
	if areTooLong(texts) {
		return
	}
	ownNames, ownTexts := make([]string, len(names)), make([]string, len(names))
	for k, name := range names {
		ownNames[k], ownTexts[k] = strings.Clone(name), texts[k].written()
	}
	if !by.watcher(ownNames, round, ownTexts) {
		refuse(api.ErrStopped)
	}
}
