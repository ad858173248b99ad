package eval

import (
	"strings"

	"legation/api"
	"legation/number"
)

// Compare tells by -1, 0 or 1 whether a is less than b, as much or more.
func Compare(a, b api.Term) (int, api.Errno) {
	if order, e := compareNumbers(a, b); e == api.OK {
		return order, api.OK
	}
	if !areTexts(a, b) && !areBooleans(a, b) {
		return 0, api.ErrOver
	}
	return strings.Compare(a.Text, b.Text), api.OK // "false" is ahead of "true", as false is less than true
}

// compareNumbers compares two terms that are numbers.
func compareNumbers(a, b api.Term) (int, api.Errno) {
	x, y, e := numbers(a, b)
	if e != api.OK {
		return 0, e
	}
	return number.Compare(x, y)
}

// numbers tells the numbers that two terms are.
func numbers(a, b api.Term) (api.Num, api.Num, api.Errno) {
	x, e := number.Of(a)
	if e != api.OK {
		return api.Num{}, api.Num{}, api.ErrOver
	}
	y, e := number.Of(b)
	if e != api.OK {
		return api.Num{}, api.Num{}, api.ErrOver
	}
	return x, y, api.OK
}

// areTexts tells whether two terms are literals that are in order as their Texts are.
func areTexts(a, b api.Term) bool {
	if !areLiterals(a, b) || a.Lang != "" || b.Lang != "" {
		return false
	}
	return a.Type == b.Type && (a.Type == "" || a.Type == api.TypeString)
}

func areBooleans(a, b api.Term) bool {
	return areLiterals(a, b) && isBoolean(a) && isBoolean(b)
}

func areLiterals(a, b api.Term) bool {
	return a.Kind == api.Literal && b.Kind == api.Literal
}

// equal tells whether two terms are equal, where that can be told.
func equal(a, b api.Term) (bool, api.Errno) {
	if order, e := compareNumbers(a, b); e == api.OK {
		return order == 0, api.OK
	}
	if a == b {
		return true, api.OK
	}
	if !areLiterals(a, b) || differ(a, b) {
		return false, api.OK
	}
	return false, api.ErrOver
}

// differ tells whether two literals that are not the same stand for two things: those of a Type that is not known may stand for one.
func differ(a, b api.Term) bool {
	if a.Lang != "" || b.Lang != "" {
		return true
	}
	return areTexts(a, b) || areBooleans(a, b)
}

// ordered tells whether two terms are in the order that kind asks for.
func ordered(kind int, a, b api.Term) api.Term {
	order, e := Compare(a, b)
	switch kind {
	case api.XLt:
		return told(order < 0, e)
	case api.XGt:
		return told(order > 0, e)
	case api.XLe:
		return told(order <= 0, e)
	}
	return told(order >= 0, e)
}
