package print

import (
	"strings"

	"legation/api"
	"legation/formula"
	"legation/term"
)

// The signs that stand around others, and the one for all.
const (
	opening = "("
	closing = ")"
	begin   = "{"
	end     = "}"
	stop    = "."
	all     = "*"
	between = " " // what stands between two words of a text
)

// words is a text that is laid down word by word.
type words struct {
	text strings.Builder
}

// lay lays texts of one or more words down behind what is there.
func (w *words) lay(texts ...string) {
	for _, s := range texts {
		if w.text.Len() > 0 {
			w.text.WriteString(between)
		}
		w.text.WriteString(s)
	}
}

// variables lays down the variables of some names.
func (w *words) variables(names []string) {
	for _, s := range names {
		w.lay(variable(s))
	}
}

// terms lays down right terms, None as what stands for it in a table.
func (w *words) terms(l ...api.Term) {
	for _, t := range l {
		if t.Kind == api.None {
			w.lay("UNDEF")
			continue
		}
		s, _ := term.Text(t)
		w.lay(s)
	}
}

// formula lays down a right formula.
func (w *words) formula(f []api.Part) {
	s, _ := formula.Text(f)
	w.lay(s)
}

// variable tells the text of the variable with that name.
func variable(name string) string {
	return "?" + name
}
