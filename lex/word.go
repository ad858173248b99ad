package lex

import (
	"strings"

	"legation/api"
	"legation/term"
)

// The signs of two bytes and those of one, each row's one behind the other.
const (
	doubles = "<=>=!=&&||"
	singles = "{}().,*+-/=<>!"
)

// word takes the word that s begins with, and tells how many bytes it has: 0, if none begins there. What it tells is a copy, since a piece of s would keep all of s.
func word(s string) (api.Token, int) {
	if t, n := term.Prefix(s); n > 0 {
		return ofTerm(t), n
	}
	if n := leading(s, isLetter); n > 0 {
		return api.Token{Kind: api.TWord, Text: strings.Clone(s[:n])}, n
	}
	if n := leading(s, isDigit); n > 0 {
		return ofDigits(s, n)
	}
	if sign := signAhead(s); sign != "" {
		return api.Token{Kind: api.TSign, Text: sign}, len(sign)
	}
	return api.Token{}, 0
}

func ofTerm(t api.Term) api.Token {
	if t.Kind == api.Var {
		return api.Token{Kind: api.TVar, Text: t.Text}
	}
	return api.Token{Kind: api.TTerm, Term: t}
}

// ofDigits takes the number that s begins with n digits of.
func ofDigits(s string, n int) (api.Token, int) {
	if places := placesAhead(s[n:]); places > 0 {
		n += places
		t := api.Term{Kind: api.Literal, Text: strings.Clone(s[:n]), Type: api.TypeDecimal}
		return api.Token{Kind: api.TTerm, Term: t}, n
	}
	return api.Token{Kind: api.TNum, Text: strings.Clone(s[:n])}, n
}

// placesAhead tells how many bytes a full stop that s begins with and the digits behind it have; 0, where either lacks.
func placesAhead(s string) int {
	rest, stop := strings.CutPrefix(s, ".")
	if n := leading(rest, isDigit); stop && n > 0 {
		return n + 1
	}
	return 0
}

// signAhead tells the sign that s begins with. Those of two bytes go first, since some begin with one of one byte.
func signAhead(s string) string {
	if sign := oneOf(doubles, 2, s); sign != "" {
		return sign
	}
	return oneOf(singles, 1, s)
}

// oneOf tells which sign of a row of signs, n bytes each, s begins with.
func oneOf(row string, n int, s string) string {
	for i := range row {
		if i%n == 0 && strings.HasPrefix(s, row[i:i+n]) {
			return row[i : i+n]
		}
	}
	return ""
}

// leading tells how many bytes at the beginning of s are of one kind. A range over a text tells runes; letters and digits are below 128, where a rune is its byte.
func leading(s string, is func(rune) bool) int {
	for i, r := range s {
		if !is(r) {
			return i
		}
	}
	return len(s)
}

func isLetter(r rune) bool {
	return 'a' <= r && r <= 'z' || 'A' <= r && r <= 'Z'
}

func isDigit(r rune) bool {
	return '0' <= r && r <= '9'
}
