package number

import (
	"cmp"

	"legation/api"
)

// What is reckoned here stays within 64 bits: a right number's value has 9 digits, so two of them multiplied have 18 at most, and one of them has 17 at most as Div asks for it.

// Add tells the sum of two numbers.
func Add(a, b api.Num) (api.Num, api.Errno) {
	if !right(a) || !right(b) {
		return api.Num{}, api.ErrForm
	}
	return reckoned(spread(a)+spread(b), api.MaxScale, a.Decimal || b.Decimal)
}

// Sub tells what is left of a without b.
func Sub(a, b api.Num) (api.Num, api.Errno) {
	if !right(a) || !right(b) {
		return api.Num{}, api.ErrForm
	}
	return reckoned(spread(a)-spread(b), api.MaxScale, a.Decimal || b.Decimal)
}

// Mul tells the product of two numbers.
func Mul(a, b api.Num) (api.Num, api.Errno) {
	if !right(a) || !right(b) {
		return api.Num{}, api.ErrForm
	}
	return reckoned(a.Value*b.Value, a.Scale+b.Scale, a.Decimal || b.Decimal)
}

// Div tells a's quotient by b, a decimal one.
func Div(a, b api.Num) (api.Num, api.Errno) {
	if !right(a) || !right(b) {
		return api.Num{}, api.ErrForm
	}
	if b.Value == 0 {
		return api.Num{}, api.ErrOver
	}
	return reckoned(a.Value*powers[2*api.MaxScale-a.Scale]/spread(b), api.MaxScale, true)
}

// Compare tells by -1, 0 or 1 whether a is less than b, as much or more.
func Compare(a, b api.Num) (int, api.Errno) {
	if !right(a) || !right(b) {
		return 0, api.ErrForm
	}
	return cmp.Compare(spread(a), spread(b)), api.OK
}

// spread tells the value that a right number has with the scale MaxScale, so that numbers of unlike scales can be set side by side.
func spread(n api.Num) int64 {
	return n.Value * powers[api.MaxScale-n.Scale]
}

func reckoned(value int64, scale int, decimal bool) (api.Num, api.Errno) {
	n, ok := made(value, scale, decimal)
	if !ok {
		return api.Num{}, api.ErrOver
	}
	return n, api.OK
}
