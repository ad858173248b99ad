package number

import (
	"strconv"
	"strings"

	"legation/api"
)

const maxDigits = 13 // of a text that may be read

// Text tells a right number's text.
func Text(n api.Num) (string, api.Errno) {
	if !right(n) {
		return "", api.ErrForm
	}
	sign, value := "", n.Value
	if value < 0 {
		sign, value = "-", -value
	}
	if !n.Decimal {
		return sign + strconv.FormatInt(value, 10), api.OK
	}
	return sign + decimalText(value, n.Scale), api.OK
}

func decimalText(value int64, scale int) string {
	whole := strconv.FormatInt(value/powers[scale], 10)
	rest := strconv.FormatInt(value%powers[scale], 10)
	return whole + "." + strings.Repeat("0", max(0, scale-len(rest))) + rest
}

// Read tells the number that s is as a whole or a decimal one.
func Read(s string, decimal bool) (api.Num, api.Errno) {
	s, sign := signed(s)
	ahead, behind, stop := strings.Cut(s, ".")
	if stop != decimal || !counted(ahead, behind, decimal) {
		return api.Num{}, api.ErrForm
	}
	value, ok := amount(ahead + behind)
	if !ok {
		return api.Num{}, api.ErrForm
	}
	n, ok := made(sign*value, len(behind), decimal)
	if !ok {
		return api.Num{}, api.ErrForm
	}
	return n, api.OK
}

// signed takes the sign off s and tells what follows it, and the sign as a factor.
func signed(s string) (string, int64) {
	switch {
	case strings.HasPrefix(s, "-"):
		return s[1:], -1
	case strings.HasPrefix(s, "+"):
		return s[1:], 1
	}
	return s, 1
}

// counted tells whether there are as many digits ahead of the full stop and behind it as there may be.
func counted(ahead, behind string, decimal bool) bool {
	if len(ahead)+len(behind) > maxDigits {
		return false
	}
	if decimal {
		return len(behind) >= 1 && len(behind) <= api.MaxScale
	}
	return len(ahead) >= 1
}

// amount tells how much at most maxDigits digits are.
func amount(digits string) (int64, bool) {
	value := int64(0)
	for _, r := range digits {
		if r < '0' || r > '9' {
			return 0, false
		}
		value = value*10 + int64(r-'0')
	}
	return value, true
}
