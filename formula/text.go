package formula

import (
	"strings"

	"legation/api"
	"legation/term"
)

// The signs that are not a part's own.
const (
	opening = "("
	closing = ")"
	comma   = ","
	between = " " // what stands between two words of a text
)

// marks are the signs and the functions' words, each at its part's kind.
var marks = [...]string{
	api.XBound:    "BOUND",
	api.XNot:      "!",
	api.XNeg:      "-",
	api.XAnd:      "&&",
	api.XOr:       "||",
	api.XEq:       "=",
	api.XNe:       "!=",
	api.XLt:       "<",
	api.XGt:       ">",
	api.XLe:       "<=",
	api.XGe:       ">=",
	api.XAdd:      "+",
	api.XSub:      "-",
	api.XMul:      "*",
	api.XDiv:      "/",
	api.XStr:      "STR",
	api.XLang:     "LANG",
	api.XType:     "DATATYPE",
	api.XIsIri:    "ISIRI",
	api.XIsLit:    "ISLITERAL",
	api.XIsBlank:  "ISBLANK",
	api.XSame:     "SAMETERM",
	api.XIf:       "IF",
	api.XCoalesce: "COALESCE",
}

// Text tells a formula's text.
func Text(f []api.Part) (string, api.Errno) {
	if e := Check(f); e != api.OK {
		return "", e
	}
	var made []string // the texts of the results that no part has taken yet
	for _, p := range f {
		n := len(made) - Needs(p)
		made = append(made[:n], text(p, made[n:]))
	}
	return made[0], api.OK
}

// text tells a right part's text from the texts of what it needs.
func text(p api.Part, needed []string) string {
	mark := marks[p.Kind]
	switch p.Kind {
	case api.XTerm:
		s, _ := term.Text(p.Term)
		return s
	case api.XVar:
		return variable(p.Name)
	case api.XBound:
		return called(mark, variable(p.Name))
	case api.XNot, api.XNeg:
		return spaced(mark, needed[0])
	case api.XStr, api.XLang, api.XType, api.XIsIri, api.XIsLit, api.XIsBlank, api.XSame, api.XIf, api.XCoalesce:
		return called(mark, strings.Join(needed, between+comma+between))
	}
	return spaced(opening, needed[0], mark, needed[1], closing)
}

func variable(name string) string {
	return "?" + name
}

func called(mark, inside string) string {
	return spaced(mark, opening, inside, closing)
}

func spaced(words ...string) string {
	return strings.Join(words, between)
}
