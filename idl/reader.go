package idl

import (
	"slices"

	"concordat/api"
	"concordat/lex"
	"concordat/runes"
)

// reader goes from token to token. At the first one that does not fit it
// stays, whatever it is asked then: so those who read need not ask each time.
type reader struct {
	tokens []api.Token
	next   int
	end    int // of the text: the place of a token that is lacking
	wrong  bool
}

// place is where the next token begins.
func (r *reader) place() int {
	if r.next == len(r.tokens) {
		return r.end
	}
	return r.tokens[r.next].At
}

// more tells whether there is a token that could fit.
func (r *reader) more() bool { return !r.wrong && r.next < len(r.tokens) }

// open tells whether what a brace began goes on; it goes behind the brace that
// ends it. At the text's end it goes on: whoever reads on finds what is lacking.
func (r *reader) open() bool { return !r.wrong && r.take("}") == "" }

// ahead is the next token's text; empty, if there is none that could fit.
func (r *reader) ahead() string {
	if !r.more() {
		return ""
	}
	return r.tokens[r.next].Text
}

// take goes behind the next token, if it is one of these words, and tells
// which; empty, if it is none of them.
func (r *reader) take(words ...string) string {
	text := r.ahead()
	if !slices.Contains(words, text) {
		return ""
	}
	r.next++
	return text
}

// one is take, where one of the words must stand.
func (r *reader) one(words ...string) string {
	text := r.take(words...)
	if text == "" {
		r.wrong = true
	}
	return text
}

func (r *reader) name() string {
	text := r.ahead()
	if !runes.Name(text) {
		r.wrong = true
		return ""
	}
	r.next++
	return text
}

func (r *reader) number() int {
	n, ok := lex.Number(r.ahead())
	if !ok {
		r.wrong = true
		return 0
	}
	r.next++
	return n
}
