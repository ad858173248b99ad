package formula

import (
	"strings"

	"legation/api"
	"legation/term"
)

// level is the kinds of the signs that bind alike, from the first one to the last one, and whether just one of them may stand among what it binds.
type level struct {
	first, last int
	once        bool
}

// levels are ordered by how close signs between two bind, the loosest ahead.
var levels = [...]level{
	{first: api.XOr, last: api.XOr},
	{first: api.XAnd, last: api.XAnd},
	{first: api.XEq, last: api.XGe, once: true},
	{first: api.XAdd, last: api.XSub},
	{first: api.XMul, last: api.XDiv},
}

// reader goes over words, and gathers the parts of what it has read. Where one of its reading methods answers false, no formula can be read at all: each is called just where what it reads must stand.
type reader struct {
	words []api.Token
	at    int
	parts []api.Part
}

// Parse reads a formula from word at on, and tells the place of the first word that is not its own.
func Parse(l []api.Token, at int) ([]api.Part, int, api.Errno) {
	if at < 0 || at > len(l) {
		return nil, 0, api.ErrRange
	}
	r := reader{words: l, at: at}
	if !r.disjunction() {
		return nil, 0, api.ErrForm
	}
	if len(r.parts) > api.MaxFormula { // asked in the end, since words that begin no formula go ahead
		return nil, 0, api.ErrLong
	}
	return r.parts, r.at, api.OK
}

func (r *reader) disjunction() bool {
	return r.chain(0)
}

// chain reads signed ones with the signs of the levels from n on between them, and gathers them from the left, the closest level first. It calls itself just behind a sign, since a call a level would make brackets in brackets cost that many more.
func (r *reader) chain(n int) bool {
	if !r.signed() {
		return false
	}
	for i := len(levels) - 1; i >= n; i-- {
		if !r.gather(levels[i], i+1) {
			return false
		}
	}
	return true
}

// gather reads the signs of a level, and behind each of them a chain of the levels from n on.
func (r *reader) gather(l level, n int) bool {
	for {
		kind := r.takeSign(l.first, l.last)
		if kind == 0 {
			return true
		}
		if !r.chain(n) {
			return false
		}
		r.add(api.Part{Kind: kind})
		if l.once {
			return true
		}
	}
}

// signed reads a simple one with the signs ahead of it.
func (r *reader) signed() bool {
	kind := r.takeSign(api.XNot, api.XNeg)
	if kind == 0 {
		return r.simple()
	}
	if !r.signed() {
		return false
	}
	r.add(api.Part{Kind: kind})
	return true
}

func (r *reader) simple() bool {
	switch w := r.next(); w.Kind {
	case api.TSign:
		return w.Text == opening && r.disjunction() && r.take(closing)
	case api.TVar:
		return r.named(api.XVar, w)
	case api.TTerm:
		return isValue(w.Term) && r.value(w.Term)
	case api.TNum:
		return r.value(api.Term{Kind: api.Literal, Text: w.Text, Type: api.TypeInteger})
	case api.TWord:
		return r.word(w.Text)
	}
	return false
}

// word reads what begins with a word of letters, behind it.
func (r *reader) word(s string) bool {
	switch s {
	case "TRUE", "FALSE":
		return r.value(api.Term{Kind: api.Literal, Text: strings.ToLower(s), Type: api.TypeBoolean})
	case marks[api.XBound]:
		return r.take(opening) && r.named(api.XBound, r.next()) && r.take(closing)
	}
	kind := kindOf(s, api.XStr, api.XCoalesce)
	return kind != 0 && r.take(opening) && r.arguments(kind)
}

// arguments reads what stands in a function's brackets, and the closing one.
func (r *reader) arguments(kind int) bool {
	n := 0
	for more := true; more; more = r.take(comma) {
		if !r.disjunction() {
			return false
		}
		n++
	}
	p := api.Part{Kind: kind}
	if kind == api.XCoalesce {
		p.N = n
	}
	r.add(p)
	return Needs(p) == n && r.take(closing)
}

// named adds a part that names the variable w, if that is one.
func (r *reader) named(kind int, w api.Token) bool {
	r.add(api.Part{Kind: kind, Name: w.Text})
	return w.Kind == api.TVar && term.IsName(w.Text)
}

func (r *reader) value(t api.Term) bool {
	r.add(api.Part{Kind: api.XTerm, Term: t})
	return true
}

func (r *reader) add(p api.Part) {
	r.parts = append(r.parts, p)
}

// next takes a word; in the end it answers one of no kind.
func (r *reader) next() api.Token {
	if r.at == len(r.words) {
		return api.Token{}
	}
	r.at++
	return r.words[r.at-1]
}

// take takes a word, if it is the sign s.
func (r *reader) take(s string) bool {
	is := r.at < len(r.words) && r.words[r.at].Kind == api.TSign && r.words[r.at].Text == s
	if is {
		r.at++
	}
	return is
}

// takeSign takes a word, if it is the sign of one of the kinds from first to last, and tells that kind; 0, if not.
func (r *reader) takeSign(first, last int) int {
	if r.at == len(r.words) || r.words[r.at].Kind != api.TSign {
		return 0
	}
	kind := kindOf(r.words[r.at].Text, first, last)
	if kind != 0 {
		r.at++
	}
	return kind
}

// kindOf tells which of the kinds from first to last has the mark s; 0, if none.
func kindOf(s string, first, last int) int {
	for kind := first; kind <= last; kind++ {
		if marks[kind] == s {
			return kind
		}
	}
	return 0
}
