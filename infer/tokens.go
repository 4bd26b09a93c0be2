package infer

import (
	"strings"

	"schemes/api"
)

type kind int

const (
	ending kind = iota
	word
	number
	sign
)

// token: at an ending the text is empty. Which words are keywords is for the grammar to say, since expressions and types differ in them.
type token struct {
	kind kind
	at   int
	text string
}

// reader goes through the tokens of a text. It holds one token ahead and no more, so that the first fault of a text is the one that is told.
type reader struct {
	src  string
	next token
}

func newReader(src string) *reader {
	if len(src) > api.MaxText {
		refuse(api.ErrLong)
	}
	r := &reader{src: src}
	r.advance()
	return r
}

func (r *reader) advance() {
	at := r.next.at + len(r.next.text)
	at += leading(r.src[at:], isBlank)
	r.next = tokenAt(r.src, at)
}

// refuse tells that the next token cannot stand where it stands.
func (r *reader) refuse() {
	refuse(&api.SyntaxError{At: r.next.at})
}

// is asks by the text alone: no name and no number looks like a sign or a keyword.
func (r *reader) is(text string) bool {
	return r.next.text == text
}

func (r *reader) expect(text string) {
	if !r.is(text) {
		r.refuse()
	}
	r.advance()
}

func (r *reader) expectEnding() {
	if r.next.kind != ending {
		r.refuse()
	}
}

func tokenAt(src string, at int) token {
	rest := src[at:]
	t := token{at: at}
	length := 0
	switch {
	case rest == "":
		return t
	case isLetter(rest[0]):
		t.kind, length = word, leading(rest, isLetterOrDigit)
	case isDigit(rest[0]):
		t.kind, length = number, leading(rest, isDigit)
	default:
		t.kind, length = sign, signLength(rest)
	}
	// No sign is longer than a name may be, so the one bound serves all.
	if length == 0 || length > api.MaxName {
		refuse(&api.SyntaxError{At: at})
	}
	t.text = rest[:length]
	return t
}

// signLength: 0, if no sign stands there.
func signLength(rest string) int {
	switch {
	case strings.HasPrefix(rest, "->"):
		return 2
	case strings.IndexByte("=(),[]", rest[0]) >= 0:
		return 1
	}
	return 0
}

// leading: how many bytes of that kind the text begins with.
func leading(text string, ofKind func(byte) bool) int {
	n := 0
	for n < len(text) && ofKind(text[n]) {
		n++
	}
	return n
}

func isBlank(c byte) bool { return c == ' ' || c == '\n' }

func isLetter(c byte) bool { return 'a' <= c && c <= 'z' }

func isDigit(c byte) bool { return '0' <= c && c <= '9' }

func isLetterOrDigit(c byte) bool { return isLetter(c) || isDigit(c) }
