package lex_test

import (
	"regexp"
	"strings"

	"legation/api"
	"legation/term"
)

// The tests' own reading of the chapter, one way of a word behind the other, which leans on term alone.
var (
	plainLetters = regexp.MustCompile(`^[a-zA-Z]+`)
	plainDecimal = regexp.MustCompile(`^[0-9]+\.[0-9]+`)
	plainDigits  = regexp.MustCompile(`^[0-9]+`)
	plainSign    = regexp.MustCompile(`^(<=|>=|!=|&&|\|\||[{}().,*+/=<>!-])`)
)

func name(s string) api.Token   { return api.Token{Kind: api.TWord, Text: s} }
func asked(s string) api.Token  { return api.Token{Kind: api.TVar, Text: s} }
func digits(s string) api.Token { return api.Token{Kind: api.TNum, Text: s} }
func sign(s string) api.Token   { return api.Token{Kind: api.TSign, Text: s} }

func of(x api.Term) api.Token { return api.Token{Kind: api.TTerm, Term: x} }
func iri(s string) api.Token  { return of(api.Term{Kind: api.Iri, Text: s}) }
func blank(s string) api.Token {
	return of(api.Term{Kind: api.Blank, Text: s})
}
func literal(s string) api.Token {
	return of(api.Term{Kind: api.Literal, Text: s})
}
func typed(s, kind string) api.Token {
	return of(api.Term{Kind: api.Literal, Text: s, Type: kind})
}
func worded(s, language string) api.Token {
	return of(api.Term{Kind: api.Literal, Text: s, Lang: language})
}
func decimal(s string) api.Token { return typed(s, api.TypeDecimal) }

// plainWord tells the word that s begins with, and its length; 0, if there is none.
func plainWord(s string) (api.Token, int) {
	if x, n := term.Prefix(s); n > 0 && x.Kind == api.Var {
		return asked(x.Text), n
	} else if n > 0 {
		return of(x), n
	}
	if w := plainLetters.FindString(s); w != "" {
		return name(w), len(w)
	}
	if w := plainDecimal.FindString(s); w != "" {
		return decimal(w), len(w)
	}
	if w := plainDigits.FindString(s); w != "" {
		return digits(w), len(w)
	}
	w := plainSign.FindString(s)
	if w == "" {
		return api.Token{}, 0
	}
	return sign(w), len(w)
}

// plainNext tells what Next must answer at a place that s has.
func plainNext(s string, at int) (api.Token, int, api.Errno) {
	for at < len(s) && strings.IndexByte(" \t\n", s[at]) >= 0 {
		at++
	}
	if at == len(s) {
		return api.Token{}, at, api.OK
	}
	w, n := plainWord(s[at:])
	if n == 0 {
		return api.Token{}, 0, api.ErrForm
	}
	w.At = at
	return w, at + n, api.OK
}

// plainLex tells what Lex must answer of a text of at most MaxText bytes, in which there can't be more than MaxTokens words.
func plainLex(s string) ([]api.Token, int, api.Errno) {
	var l []api.Token
	at := 0
	for {
		w, end, e := plainNext(s, at)
		if e != api.OK {
			return nil, len(s) - len(strings.TrimLeft(s[at:], " \t\n")), e
		}
		if w.Kind == 0 {
			return l, 0, api.OK
		}
		l, at = append(l, w), end
	}
}

// every hands f each text of at most n bytes of an alphabet.
func every(alphabet string, n int, f func(string)) {
	var longer func(s string)
	longer = func(s string) {
		f(s)
		if len(s) == n {
			return
		}
		for i := range len(alphabet) {
			longer(s + alphabet[i:i+1])
		}
	}
	longer("")
}

// without tells the words with no places, so that they can be held against those of another text.
func without(l []api.Token) []api.Token {
	var k []api.Token
	for _, w := range l {
		w.At = 0
		k = append(k, w)
	}
	return k
}

// texts are ordinary ones and odd ones, of which all tests that hold something of any text make use.
func texts() []string {
	return []string{
		"",
		" \t\n",
		"SELECT ?x WHERE { ?x <a> \"b\"@en . FILTER(?x<=1.5||!?x>2) }",
		"SELECT DISTINCT * WHERE { ?x <http://a/b#c> ?y .\n\tOPTIONAL { ?y <b> ?z . FILTER ( ?z > 1 ) } } ORDER BY DESC ( ?x ) LIMIT 10 OFFSET 2",
		"ASK { _:a <b> \"c\"^^<http://t> . VALUES ( ?x ) { ( UNDEF ) ( 1 ) ( 1.50 ) ( \"\\\"\\n\" ) } }",
		"BIND ( ( ?a + 1 * 2 ) / -3 AS ?b )",
		"?x<?y&&?z>?w",
		"1.5.6..7.a1b2",
		"\"a\"b\"c\"",
		"\t?x\n  <a>\t \n?y",
		"a & b", "x é", "?", "\"", "\"a", "_", "_:", "a|b", "1.5#", "{ [ }", "\r", "a\r\nb", "\x00", "a\xff", "&", "|", "<a> <b> 'c' .",
	}
}
