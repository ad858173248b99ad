package lex

import (
	"strings"
	"testing"

	"legation/api"
)

// P5.2: words beyond the most: the place of the first one too many, but for one that is none. Of MaxText bytes there can't be more than MaxTokens words, so this is asked with other bounds, and of longer texts.
func TestTooManyWords(t *testing.T) {
	for _, one := range []struct {
		s    string
		most int
		n    int
		at   int
		e    api.Errno
	}{
		{"", 0, 0, 0, api.OK},
		{" \n", 0, 0, 0, api.OK},
		{"a", 0, 0, 0, api.ErrLong},
		{"  a", 0, 0, 2, api.ErrLong},
		{"a", 1, 1, 0, api.OK},
		{"a b", 1, 0, 2, api.ErrLong},
		{"a b c d", 1, 0, 2, api.ErrLong},
		{"a b c d", 3, 0, 6, api.ErrLong},
		{"a b c d", 4, 4, 0, api.OK},
		{"a &", 1, 0, 2, api.ErrForm},
		{"& a b", 1, 0, 0, api.ErrForm},
		{"a b  &", 1, 0, 5, api.ErrForm},
		{"a b c d é e", 1, 0, 8, api.ErrForm},
		{strings.Repeat("( ", api.MaxTokens), api.MaxTokens, api.MaxTokens, 0, api.OK},
		{strings.Repeat("( ", api.MaxTokens) + "?x ", api.MaxTokens, 0, 2 * api.MaxTokens, api.ErrLong},
		{strings.Repeat("( ", api.MaxTokens+7), api.MaxTokens, 0, 2 * api.MaxTokens, api.ErrLong},
	} {
		if l, at, e := words(one.s, one.most); len(l) != one.n || at != one.at || e != one.e {
			t.Errorf("%.40q of at most %d: %d words, %d %d", one.s, one.most, len(l), at, e)
		}
	}
}
