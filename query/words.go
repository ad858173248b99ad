package query

import (
	"legation/api"
	"legation/term"
)

// The signs that stand between others.
const (
	opening = "("
	closing = ")"
	begin   = "{"
	end     = "}"
	stop    = "."
	all     = "*"
)

const maxDigits = 9 // so that maxCount is the greatest number that they tell

// words are those of a text, and the place of the first one that was not taken.
type words struct {
	list []api.Token
	at   int
}

// ahead tells the word that is taken next; in the end one of no kind.
func (w *words) ahead() api.Token {
	if w.at == len(w.list) {
		return api.Token{}
	}
	return w.list[w.at]
}

// next takes a word; in the end it answers one of no kind.
func (w *words) next() api.Token {
	t := w.ahead()
	w.at = min(w.at+1, len(w.list))
	return t
}

// is tells whether the word ahead is of that kind and text. It copies no word, since each of the groups that are nested in one another would keep room for the copies.
func (w *words) is(kind int, text string) bool {
	return w.at < len(w.list) && w.list[w.at].Kind == kind && w.list[w.at].Text == text
}

// word takes the word ahead, if it has those letters.
func (w *words) word(letters string) bool {
	return w.take(api.TWord, letters)
}

// sign takes the word ahead, if it is that sign.
func (w *words) sign(s string) bool {
	return w.take(api.TSign, s)
}

func (w *words) take(kind int, text string) bool {
	is := w.is(kind, text)
	if is {
		w.at++
	}
	return is
}

// variable takes a variable, and tells its name.
func (w *words) variable() (string, bool) {
	t := w.next()
	return t.Text, t.Kind == api.TVar && term.IsName(t.Text)
}

// bracketed takes a variable in brackets, and tells its name.
func (w *words) bracketed() (string, bool) {
	if !w.sign(opening) {
		return "", false
	}
	name, ok := w.variable()
	return name, ok && w.sign(closing)
}

// digits takes digits, as many as may be.
func (w *words) digits() (string, bool) {
	t := w.next()
	return t.Text, t.Kind == api.TNum && 1 <= len(t.Text) && len(t.Text) <= maxDigits
}
