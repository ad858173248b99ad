package eval

import (
	"legation/api"
	"legation/number"
)

const (
	isTrue  = "true"
	isFalse = "false"
)

// Truth tells a term's truth.
func Truth(t api.Term) (bool, api.Errno) {
	if t.Kind != api.Literal {
		return false, api.ErrOver
	}
	switch t.Type {
	case "", api.TypeString:
		return t.Text != "", api.OK
	case api.TypeBoolean:
		if isBoolean(t) {
			return t.Text == isTrue, api.OK
		}
		fallthrough
	case api.TypeInteger, api.TypeDecimal:
		if n, e := number.Of(t); e == api.OK {
			return n.Value != 0, api.OK
		}
		fallthrough
	default:
		return false, api.ErrOver
	}
}

// isBoolean tells whether a literal is one of the two that stand for a truth.
func isBoolean(t api.Term) bool {
	return t.Type == api.TypeBoolean && (t.Text == isTrue || t.Text == isFalse)
}

// truth tells the literal of a truth.
func truth(is bool) api.Term {
	t := api.Term{Kind: api.Literal, Text: isFalse, Type: api.TypeBoolean}
	if is {
		t.Text = isTrue
	}
	return t
}

// told tells the literal of a truth; an error, if e is one.
func told(is bool, e api.Errno) api.Term {
	if e != api.OK {
		return api.Term{}
	}
	return truth(is)
}

// decided tells the truth of two terms together: one that is as deciding is enough, whatever the other one is, an error even; the other truth takes both.
func decided(a, b api.Term, deciding bool) api.Term {
	x, ex := Truth(a)
	y, ey := Truth(b)
	switch {
	case ex == api.OK && x == deciding, ey == api.OK && y == deciding:
		return truth(deciding)
	case ex != api.OK || ey != api.OK:
		return api.Term{}
	}
	return truth(!deciding)
}
