package term

import (
	"strings"

	"legation/api"
)

// Read tells the right term whose text s is.
func Read(s string) (api.Term, api.Errno) {
	t, n := Prefix(s)
	if n != len(s) {
		return api.Term{}, api.ErrForm
	}
	return t, api.OK
}

// Prefix tells the right term whose text s begins with, and how many bytes that text has.
func Prefix(s string) (api.Term, int) {
	switch {
	case strings.HasPrefix(s, "<"):
		return iriAhead(s)
	case strings.HasPrefix(s, "_:"):
		return namedAhead(api.Blank, s, 2)
	case strings.HasPrefix(s, "?"):
		return namedAhead(api.Var, s, 1)
	case strings.HasPrefix(s, "\""):
		return literalAhead(s)
	}
	return api.Term{}, 0
}

func iriAhead(s string) (api.Term, int) {
	text, n := bracketed(s)
	if n == 0 {
		return api.Term{}, 0
	}
	return api.Term{Kind: api.Iri, Text: text}, n
}

func namedAhead(kind int, s string, at int) (api.Term, int) {
	n := nameLength(s[at:])
	if n == 0 {
		return api.Term{}, 0
	}
	return api.Term{Kind: kind, Text: strings.Clone(s[at : at+n])}, at + n
}

func literalAhead(s string) (api.Term, int) {
	text, n := unquote(s)
	if n == 0 {
		return api.Term{}, 0
	}
	t := api.Term{Kind: api.Literal, Text: text}
	m := 0
	switch rest := s[n:]; {
	case strings.HasPrefix(rest, "^^"):
		t.Type, m = typeAhead(rest)
	case strings.HasPrefix(rest, "@"):
		t.Lang, m = langAhead(rest)
	}
	return t, n + m
}

// typeAhead takes a Type and the ^^ that s begins with; neither, where no right Type stands behind it.
func typeAhead(s string) (string, int) {
	text, n := bracketed(s[2:])
	if n == 0 {
		return "", 0
	}
	return text, n + 2
}

// langAhead takes a Lang and the @ that s begins with; neither, where the letters behind it are none or too many.
func langAhead(s string) (string, int) {
	n := langLength(s[1:])
	if n == 0 || n > maxLang {
		return "", 0
	}
	return strings.Clone(s[1 : n+1]), n + 1
}

// bracketed takes an IRI with its brackets. The first > ends it without being looked for, since no IRI has one. What it tells is a copy, since a piece of s would keep all of s.
func bracketed(s string) (string, int) {
	if !strings.HasPrefix(s, "<") {
		return "", 0
	}
	n := iriLength(s[1:])
	if n == 0 || !strings.HasPrefix(s[n+1:], ">") {
		return "", 0
	}
	return strings.Clone(s[1 : n+1]), n + 2
}

// unquote takes a literal's text with the double quotes that it begins and ends with.
func unquote(s string) (string, int) {
	var text []byte
	open := false
	for i, r := range s[1:] {
		switch {
		case open:
			c, ok := escaped(r)
			if !ok {
				return "", 0
			}
			text, open = append(text, c), false
		case r == '"':
			return string(text), i + 2
		case r == '\\':
			open = true
		case r < ' ' || !isLiteralByte(r):
			// A line feed and a tab may be in a literal, but its text has their escapes alone.
			return "", 0
		default:
			text = append(text, byte(r))
		}
		if len(text) > api.MaxText {
			return "", 0
		}
	}
	return "", 0
}

// escaped tells which byte is meant by a backslash and r.
func escaped(r rune) (byte, bool) {
	switch r {
	case 'n':
		return '\n', true
	case 't':
		return '\t', true
	case '"', '\\':
		return byte(r), true
	}
	return 0, false
}
