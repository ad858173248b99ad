// Package term knows terms, their texts and their order (layer 1: see shared/doc/01-term.md).
package term

import (
	"strings"

	"legation/api"
)

const (
	maxName = 32 // bytes of a name
	maxLang = 8  // letters of a Lang
)

// Check answers ErrForm of a term that is not right.
func Check(t api.Term) api.Errno {
	if !right(t) {
		return api.ErrForm
	}
	return api.OK
}

// IsName tells whether s is a name.
func IsName(s string) bool {
	return s != "" && nameLength(s) == len(s)
}

// Less tells whether a is ahead of b.
func Less(a, b api.Term) bool {
	return Compare(a, b) < 0
}

// Compare tells by -1, 0 or 1 which of two terms is ahead, or that they are the same.
func Compare(a, b api.Term) int {
	switch {
	case a.Kind < b.Kind:
		return -1
	case a.Kind > b.Kind:
		return 1
	case a.Text != b.Text:
		return strings.Compare(a.Text, b.Text)
	case a.Type != b.Type:
		return strings.Compare(a.Type, b.Type)
	}
	return strings.Compare(a.Lang, b.Lang)
}

func right(t api.Term) bool {
	switch t.Kind {
	case api.Iri:
		return untagged(t) && isIri(t.Text)
	case api.Blank, api.Var:
		return untagged(t) && IsName(t.Text)
	case api.Literal:
		return isLiteralText(t.Text) && rightTag(t)
	}
	return t == api.Term{}
}

func untagged(t api.Term) bool {
	return t.Type == "" && t.Lang == ""
}

func rightTag(t api.Term) bool {
	if t.Lang == "" {
		return t.Type == "" || isIri(t.Type)
	}
	return t.Type == "" && isLang(t.Lang)
}

func isIri(s string) bool {
	return s != "" && iriLength(s) == len(s)
}

func isLang(s string) bool {
	return s != "" && langLength(s) == len(s) && len(s) <= maxLang
}

func isLiteralText(s string) bool {
	if len(s) > api.MaxText {
		return false
	}
	for _, r := range s {
		if !isLiteralByte(r) {
			return false
		}
	}
	return true
}

// A range over a text tells runes. All that may stand in a term is below 128, where a rune is its byte, and whatever else a text has comes as a rune beyond that: so the next functions refuse it as they refuse such bytes, and a place in what they took is a number of bytes.

// nameLength tells how many bytes at the beginning of s are a name's.
func nameLength(s string) int {
	for i, r := range s {
		if i == maxName || !isNameByte(r, i) {
			return i
		}
	}
	return len(s)
}

// iriLength tells how many bytes at the beginning of s are an IRI's. It looks no further than an IRI may be long, so that a text without an end costs no more.
func iriLength(s string) int {
	for i, r := range s {
		if i == api.MaxText || !isIriByte(r) {
			return i
		}
	}
	return len(s)
}

// langLength tells how many small letters s begins with; that they are too many is told by one too many.
func langLength(s string) int {
	for i, r := range s {
		if i > maxLang || !isSmall(r) {
			return i
		}
	}
	return len(s)
}

func isNameByte(r rune, at int) bool {
	if isSmall(r) || 'A' <= r && r <= 'Z' {
		return true
	}
	return at > 0 && (r == '_' || '0' <= r && r <= '9')
}

func isIriByte(r rune) bool {
	return '!' <= r && r <= '~' && !strings.ContainsRune("<>\"{}|^`\\", r)
}

func isLiteralByte(r rune) bool {
	return ' ' <= r && r <= '~' || r == '\n' || r == '\t'
}

func isSmall(r rune) bool {
	return 'a' <= r && r <= 'z'
}
