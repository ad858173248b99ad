package eval

import (
	"legation/api"
	"legation/number"
)

// ofOne tells what a part of one term comes to.
func ofOne(kind int, t api.Term) api.Term {
	switch kind {
	case api.XNot:
		is, e := Truth(t)
		return told(!is, e)
	case api.XNeg:
		return reckoned(number.Sub, api.Term{Kind: api.Literal, Text: "0", Type: api.TypeInteger}, t)
	case api.XStr:
		return text(t)
	case api.XLang:
		return language(t)
	case api.XType:
		return datatype(t)
	case api.XIsIri:
		return truth(t.Kind == api.Iri)
	case api.XIsLit:
		return truth(t.Kind == api.Literal)
	}
	return truth(t.Kind == api.Blank)
}

// ofTwo tells what a part of two terms comes to.
func ofTwo(kind int, a, b api.Term) api.Term {
	switch kind {
	case api.XSame:
		return truth(a == b)
	case api.XEq:
		is, e := equal(a, b)
		return told(is, e)
	case api.XNe:
		is, e := equal(a, b)
		return told(!is, e)
	case api.XAdd:
		return reckoned(number.Add, a, b)
	case api.XSub:
		return reckoned(number.Sub, a, b)
	case api.XMul:
		return reckoned(number.Mul, a, b)
	case api.XDiv:
		return reckoned(number.Div, a, b)
	}
	return ordered(kind, a, b)
}

// reckoned tells the term of what is reckoned of two numbers.
func reckoned(reckon func(a, b api.Num) (api.Num, api.Errno), a, b api.Term) api.Term {
	x, y, e := numbers(a, b)
	if e != api.OK {
		return api.Term{}
	}
	n, e := reckon(x, y)
	if e != api.OK {
		return api.Term{}
	}
	t, _ := number.Term(n) // what was reckoned is right
	return t
}

func text(t api.Term) api.Term {
	if t.Kind != api.Iri && t.Kind != api.Literal {
		return api.Term{}
	}
	return api.Term{Kind: api.Literal, Text: t.Text}
}

func language(t api.Term) api.Term {
	if t.Kind != api.Literal {
		return api.Term{}
	}
	return api.Term{Kind: api.Literal, Text: t.Lang}
}

func datatype(t api.Term) api.Term {
	switch {
	case t.Kind != api.Literal || t.Lang != "":
		return api.Term{}
	case t.Type == "":
		return api.Term{Kind: api.Iri, Text: api.TypeString}
	}
	return api.Term{Kind: api.Iri, Text: t.Type}
}
