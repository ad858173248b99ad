package lex_test

import (
	"slices"
	"strings"
	"testing"

	"legation/api"
	"legation/lex"
)

// wordsOf are texts and their words, but for the places.
type wordsOf map[string][]api.Token

func checkWords(t *testing.T, all wordsOf) {
	t.Helper()
	for s, want := range all {
		l, n, e := lex.Lex(s)
		if !slices.Equal(without(l), want) || n != 0 || e != api.OK {
			t.Errorf("%.80q: %+v %d %d", s, l, n, e)
		}
	}
}

// checkNone holds that no word begins at a place of each text.
func checkNone(t *testing.T, all map[string]int) {
	t.Helper()
	for s, at := range all {
		if l, n, e := lex.Lex(s); len(l) != 0 || n != at || e != api.ErrForm {
			t.Errorf("%.80q: %+v %d %d", s, l, n, e)
		}
		if w, n, e := lex.Next(s, at); w != (api.Token{}) || n != 0 || e != api.ErrForm {
			t.Errorf("%.80q at %d: %+v %d %d", s, at, w, n, e)
		}
	}
}

// P5.2: terms: variables are words of their own kind, by their names; all others are terms.
func TestTerms(t *testing.T) {
	long := strings.Repeat("a", 32)
	checkWords(t, wordsOf{
		"?x":                               {asked("x")},
		"?x?y":                             {asked("x"), asked("y")},
		"?x .":                             {asked("x"), sign(".")},
		"?x_1.":                            {asked("x_1"), sign(".")},
		"?SELECT":                          {asked("SELECT")},
		"?" + long:                         {asked(long)},
		"?" + long + "b1":                  {asked(long), name("b"), digits("1")},
		"?" + long + "1.5":                 {asked(long), decimal("1.5")},
		"<a>":                              {iri("a")},
		"<http://a/b?c=d#e>":               {iri("http://a/b?c=d#e")},
		"<a><b>":                           {iri("a"), iri("b")},
		"<?x>":                             {iri("?x")},
		"<=>":                              {iri("=")},
		"<1.5>":                            {iri("1.5")},
		"_:a":                              {blank("a")},
		"_:a1_ _:b":                        {blank("a1_"), blank("b")},
		"_:" + long + "b":                  {blank(long), name("b")},
		"\"\"":                             {literal("")},
		"\"a b\"":                          {literal("a b")},
		"\"?x <a> 1 { \"":                  {literal("?x <a> 1 { ")},
		"\"a\\\"b\\\\\\n\\t\"":             {literal("a\"b\\\n\t")},
		"\"a\"@en":                         {worded("a", "en")},
		"\"a\"@enGB":                       {worded("a", "en"), name("GB")},
		"\"a\"@en.":                        {worded("a", "en"), sign(".")},
		"\"1\"^^<" + api.TypeInteger + ">": {typed("1", api.TypeInteger)},
		"\"1.5\"^^<t>.":                    {typed("1.5", "t"), sign(".")},
		"\"a\"b":                           {literal("a"), name("b")},
		"\"a\"1":                           {literal("a"), digits("1")},
	})
}

// P5.2: a term goes ahead of a letter and of a sign; where no term begins, these may.
func TestTermsAheadOfTheRest(t *testing.T) {
	long := strings.Repeat("i", api.MaxText-1)
	checkWords(t, wordsOf{
		"_:a":            {blank("a")},
		"a_:a":           {name("a"), blank("a")},
		"<a>":            {iri("a")},
		"< a>":           {sign("<"), name("a"), sign(">")},
		"< a":            {sign("<"), name("a")},
		"<a >":           {sign("<"), name("a"), sign(">")},
		"<a":             {sign("<"), name("a")},
		"<>":             {sign("<"), sign(">")},
		"<":              {sign("<")},
		"<=a":            {sign("<="), name("a")},
		"<=a>":           {iri("=a")},
		"<<a>":           {sign("<"), iri("a")},
		"<a<b>":          {sign("<"), name("a"), iri("b")},
		"?x<?y":          {asked("x"), sign("<"), asked("y")},
		"?x<?y>":         {asked("x"), iri("?y")},
		"?x<?y&&?z>?w":   {asked("x"), iri("?y&&?z"), asked("w")},
		"?x<?y && ?z>?w": {asked("x"), sign("<"), asked("y"), sign("&&"), asked("z"), sign(">"), asked("w")},
		"<" + long:       {sign("<"), name(long)},
	})
}

// P5.2: words of letters, of as many as follow.
func TestLetters(t *testing.T) {
	all := "abcdefghijklmnopqrstuvwxyzABCDEFGHIJKLMNOPQRSTUVWXYZ"
	long := strings.Repeat("aZ", api.MaxText/2)
	checkWords(t, wordsOf{
		"a":               {name("a")},
		"SELECT":          {name("SELECT")},
		"select Where":    {name("select"), name("Where")},
		all:               {name(all)},
		long:              {name(long)},
		"a1":              {name("a"), digits("1")},
		"a1.5b":           {name("a"), decimal("1.5"), name("b")},
		"a.b":             {name("a"), sign("."), name("b")},
		"a?b":             {name("a"), asked("b")},
		"a\"b\"":          {name("a"), literal("b")},
		"FILTER(a)":       {name("FILTER"), sign("("), name("a"), sign(")")},
		"a\tb\nc d":       {name("a"), name("b"), name("c"), name("d")},
		"UNION{}OPTIONAL": {name("UNION"), sign("{"), sign("}"), name("OPTIONAL")},
	})
	checkNone(t, map[string]int{"a_b": 1, "aé": 1, "éa": 0, "a\u212a": 1, "\u0131": 0, "a'": 1})
}

// P5.2: digits, and a decimal where a full stop and a digit follow.
func TestDigits(t *testing.T) {
	long := strings.Repeat("7", api.MaxText)
	checkWords(t, wordsOf{
		"0":                     {digits("0")},
		"1":                     {digits("1")},
		"0123456789":            {digits("0123456789")},
		"007":                   {digits("007")},
		long:                    {digits(long)},
		"1.5":                   {decimal("1.5")},
		"00.100":                {decimal("00.100")},
		"0123456789.9876543210": {decimal("0123456789.9876543210")},
		long[2:] + ".1":         {decimal(long[2:] + ".1")},
		"1." + long[2:]:         {decimal("1." + long[2:])},
		"1.":                    {digits("1"), sign(".")},
		"1. 5":                  {digits("1"), sign("."), digits("5")},
		"1 .5":                  {digits("1"), sign("."), digits("5")},
		"1.\n":                  {digits("1"), sign(".")},
		"1..5":                  {digits("1"), sign("."), sign("."), digits("5")},
		"1.a":                   {digits("1"), sign("."), name("a")},
		"1.}":                   {digits("1"), sign("."), sign("}")},
		"1.?x":                  {digits("1"), sign("."), asked("x")},
		"1.5.6":                 {decimal("1.5"), sign("."), digits("6")},
		"1.5.6.7":               {decimal("1.5"), sign("."), decimal("6.7")},
		"1.5.":                  {decimal("1.5"), sign(".")},
		"1.5e6":                 {decimal("1.5"), name("e"), digits("6")},
		".5":                    {sign("."), digits("5")},
		"1a":                    {digits("1"), name("a")},
		"1?x":                   {digits("1"), asked("x")},
		"1_:a":                  {digits("1"), blank("a")},
		"-1":                    {sign("-"), digits("1")},
		"+1.5":                  {sign("+"), decimal("1.5")},
		"1,5":                   {digits("1"), sign(","), digits("5")},
		"1.5 1.":                {decimal("1.5"), digits("1"), sign(".")},
		"1.1.1.":                {decimal("1.1"), sign("."), digits("1"), sign(".")},
	})
	checkNone(t, map[string]int{"1_": 1, "1.5_": 3, "1.é": 2, "1.5é": 3, "\u0661": 0, "1\u0661": 1, "1.\u0661": 2, "\u00b2": 0})
}

// P5.2: each sign, alone and beside others; one of two bytes ahead of one of one.
func TestSigns(t *testing.T) {
	for _, s := range []string{"<=", ">=", "!=", "&&", "||", "{", "}", "(", ")", ".", ",", "*", "+", "-", "/", "=", "<", ">", "!"} {
		checkWords(t, wordsOf{
			s:             {sign(s)},
			" " + s + " ": {sign(s)},
			"a" + s:       {name("a"), sign(s)},
			s + "?x":      {sign(s), asked("x")},
			s + " " + s:   {sign(s), sign(s)},
			"(" + s + ")": {sign("("), sign(s), sign(")")},
		})
	}
	checkWords(t, wordsOf{
		"< =":         {sign("<"), sign("=")},
		"> =":         {sign(">"), sign("=")},
		"! =":         {sign("!"), sign("=")},
		"<=<":         {sign("<="), sign("<")},
		"<==":         {sign("<="), sign("=")},
		"=<":          {sign("="), sign("<")},
		"=<=":         {sign("="), sign("<=")},
		"=>":          {sign("="), sign(">")},
		"==":          {sign("="), sign("=")},
		"=!":          {sign("="), sign("!")},
		">==":         {sign(">="), sign("=")},
		">>=":         {sign(">"), sign(">=")},
		"!==":         {sign("!="), sign("=")},
		"!!=":         {sign("!"), sign("!=")},
		"!<=":         {sign("!"), sign("<=")},
		"&&&&":        {sign("&&"), sign("&&")},
		"||||":        {sign("||"), sign("||")},
		"&&||":        {sign("&&"), sign("||")},
		"<=>=!=&&||":  {iri("="), sign("="), sign("!="), sign("&&"), sign("||")},
		"<= >=!=&&||": {sign("<="), sign(">="), sign("!="), sign("&&"), sign("||")},
		"{}().,*+-/=": {sign("{"), sign("}"), sign("("), sign(")"), sign("."), sign(","), sign("*"), sign("+"), sign("-"), sign("/"), sign("=")},
	})
	checkNone(t, map[string]int{"&": 0, "|": 0, "& &": 0, "| |": 0, "&&&": 2, "|||": 2, "&|": 0, "|&": 0, "&=": 0, "a&": 1, "?x|": 2, "=&": 1, "<&": 1})
}

// P5.2: each byte alone: the beginning of a word or of none.
func TestEachByte(t *testing.T) {
	letters := "abcdefghijklmnopqrstuvwxyzABCDEFGHIJKLMNOPQRSTUVWXYZ"
	for i := range 256 {
		s := string([]byte{byte(i)})
		switch {
		case strings.Contains(letters, s):
			checkWords(t, wordsOf{s: {name(s)}, s + " ": {name(s)}, "(" + s: {sign("("), name(s)}})
		case strings.Contains("0123456789", s):
			checkWords(t, wordsOf{s: {digits(s)}, s + " ": {digits(s)}, "(" + s: {sign("("), digits(s)}})
		case strings.Contains("{}().,*+-/=<>!", s):
			checkWords(t, wordsOf{s: {sign(s)}, s + " ": {sign(s)}, "(" + s: {sign("("), sign(s)}})
		case strings.Contains(" \t\n", s):
			checkWords(t, wordsOf{s: nil, s + s: nil, "(" + s: {sign("(")}, s + "(": {sign("(")}})
		default:
			checkNone(t, map[string]int{s: 0, s + " ": 0, "(" + s: 1, " " + s + " a": 1, "a " + s: 2, "1" + s: 1, "a" + s: 1})
		}
	}
}

// P5.2: what is none of the terms that it looks like.
func TestNone(t *testing.T) {
	checkNone(t, map[string]int{
		"?":               0,
		"? x":             0,
		"?1":              0,
		"?_":              0,
		"?é":              0,
		"??x":             0,
		"?<a>":            0,
		"a ?":             2,
		"( ?x ? )":        5,
		"_":               0,
		"_:":              0,
		"_a":              0,
		"_ :a":            0,
		"_:1":             0,
		":a":              0,
		"\"":              0,
		"\"a":             0,
		"\"a\\\"":         0,
		"\"\\a\"":         0,
		"\"é\"":           0,
		"a \"b\nc\"":      2,
		"\"a\"@":          3,
		"\"a\"@EN":        3,
		"\"a\"^^":         3,
		"\"a\"^^t":        3,
		"\"a\"^^<>":       3,
		"\"a\"@abcdefghi": 3,
		"\"a\"@en-gb_":    9,
		"'a'":             0,
		"[]":              0,
		"a;":              1,
		"a:b":             1,
		"#":               0,
		"$x":              0,
		"a\rb":            1,
		"a\vb":            1,
		"a\u00a0b":        1,
		"\ufeffa":         0,
		"\x00":            0,
		"<a> <b> %":       8,
	})
}
