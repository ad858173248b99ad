package query_test

import (
	"fmt"
	"math/rand/v2"
	"reflect"
	"strings"
	"testing"

	"legation/api"
	"legation/formula"
	"legation/lex"
	"legation/query"
	"legation/term"
)

// brief tells what a failure's line has room for.
func brief(x any) string { return fmt.Sprintf("%.400s", fmt.Sprintf("%+v", x)) }

// lexed tells the words of a text, which must have just words.
func lexed(t *testing.T, s string) []api.Token {
	t.Helper()
	l, _, e := lex.Lex(s)
	if e != api.OK {
		t.Fatalf("%q: %d", s, e)
	}
	return l
}

// tidied tells a deep copy in which each list without elements is nil.
func tidied[T any](x T) T {
	var tidy func(v reflect.Value) reflect.Value
	tidy = func(v reflect.Value) reflect.Value {
		to := reflect.New(v.Type()).Elem()
		switch v.Kind() {
		case reflect.Slice:
			for i := range v.Len() {
				to = reflect.Append(to, tidy(v.Index(i)))
			}
		case reflect.Struct:
			for i := range v.NumField() {
				to.Field(i).Set(tidy(v.Field(i)))
			}
		default:
			to.Set(v)
		}
		return to
	}
	return tidy(reflect.ValueOf(x)).Interface().(T)
}

// same tells whether two things are alike, lists without elements being nil's like.
func same[T any](a, b T) bool { return reflect.DeepEqual(tidied(a), tidied(b)) }

// shown tells a code in short: each operation's letter, and what it has in brackets.
func shown(c []api.Op) string {
	var l []string
	for _, o := range c {
		s := string("?BTJULMFES"[max(0, min(o.Kind, 9))])
		var in []string
		for _, x := range o.Triples {
			in = append(in, shownTerms(x.S, x.P, x.O)+" .")
		}
		if o.Kind == api.OTable {
			in = append(in, strings.Join(append(o.Table.Vars, ":"), " "))
		}
		for _, row := range o.Table.Rows {
			in = append(in, "("+shownTerms(row...)+")")
		}
		if len(o.Formula) > 0 {
			text, _ := formula.Text(o.Formula)
			in = append(in, strings.ReplaceAll(text, "^^<"+api.TypeInteger+">", "i"))
		}
		if o.Silent {
			in = append(in, "silent")
		}
		if o.Name != "" {
			in = append(in, o.Name)
		}
		if len(in) > 0 {
			s += "[" + strings.Join(in, " ") + "]"
		}
		l = append(l, s)
	}
	return strings.Join(l, " ")
}

func shownTerms(l ...api.Term) string {
	var texts []string
	for _, x := range l {
		s, _ := term.Text(x)
		if x.Kind == api.None {
			s = "-"
		}
		texts = append(texts, strings.ReplaceAll(s, "^^<"+api.TypeInteger+">", "i"))
	}
	return strings.Join(texts, " ")
}

// checkParse holds what Parse tells of a text against what the chapter's rules tell, and that what is parsed is right.
func checkParse(t *testing.T, s string) api.Errno {
	t.Helper()
	want, errs := plainParse(t, s)
	got, e := query.Parse(s)
	right := false
	for _, x := range errs {
		right = right || x == e
	}
	if !right {
		t.Errorf("%s: %d; not %d", brief(s), e, errs)
		return e
	}
	if e != api.OK {
		want = api.Query{}
	} else if err := query.Check(got); err != api.OK {
		t.Errorf("%s: parsed, but Check says %d", brief(s), err)
	}
	if !same(got, want) {
		t.Errorf("%s: %s; not %s", brief(s), brief(got), brief(want))
	}
	return e
}

// checkCode holds what Code tells at a place of some words against what the chapter's rules tell.
func checkCode(t *testing.T, l []api.Token, at int) api.Errno {
	t.Helper()
	want, end, err := plainCode(l, at)
	if err != api.OK {
		want, end = nil, 0
	}
	c, n, e := query.Code(l, at)
	if !same(c, want) || n != end || e != err {
		t.Errorf("%s at %d: %s %d %d; not %s %d %d", brief(lex.Join(l)), at, brief(shown(c)), n, e, brief(shown(want)), end, err)
	}
	return e
}

// checkGroup holds the code of a text's group, which ends with its last word, against what is shown of it.
func checkGroup(t *testing.T, s, want string) {
	t.Helper()
	l := lexed(t, s)
	c, n, e := query.Code(l, 0)
	if shown(c) != want || n != len(l) || e != api.OK {
		t.Errorf("%s: %s %d %d; not %s %d", brief(s), brief(shown(c)), n, e, brief(want), len(l))
	}
	checkCode(t, l, 0)
}

// checkNoGroup holds that of a text's group no code is told, but an error.
func checkNoGroup(t *testing.T, s string, want api.Errno) {
	t.Helper()
	c, n, e := query.Code(lexed(t, s), 0)
	if len(c) != 0 || n != 0 || e != want {
		t.Errorf("%s: %s %d %d; not %d", brief(s), brief(shown(c)), n, e, want)
	}
}

// checkNoQuery holds that of a text no query is told, but an error.
func checkNoQuery(t *testing.T, s string, want api.Errno) {
	t.Helper()
	q, e := query.Parse(s)
	if !same(q, api.Query{}) || e != want {
		t.Errorf("%s: %s %d; not %d", brief(s), brief(q), e, want)
	}
}

// everything are texts of queries that are right, which have all that queries may have.
func everything() []string {
	return []string{
		"ASK { }",
		"ASK { ?x <a> ?y . <b> ?x \"c\"@en . ?y <b> 1.5 . }",
		"SELECT * WHERE { }",
		"SELECT DISTINCT * WHERE { ?x <a> ?y . FILTER ( ?x = ?y && 2 ) ?y <b> ?z . } ORDER BY ?z LIMIT 10 OFFSET 999999999",
		"SELECT * WHERE { FILTER ( TRUE ) OPTIONAL { ?x <a> ?y . FILTER ( ?x = 1 ) FILTER ( ! ?y ) } }",
		"SELECT ?y ?x WHERE { { ?x <a> ?y . } UNION { ?x <b> ?y . FILTER ( ?x ) } UNION { } MINUS { ?x <c> ?y . FILTER ( ?y ) } }",
		"SELECT ?x WHERE { VALUES ( ?x ?y ) { ( <a> 7 ) ( UNDEF \"b\" ) } BIND ( ?x + 1 AS ?z ) } ORDER BY ASC ( ?x ) ?x DESC ( ?x )",
		"SELECT * WHERE { ?x <a> ?y . SERVICE SILENT <e> { ?y <b> ?z . FILTER ( ?z > 1 ) } SERVICE <f> { } }",
		"SELECT ?x ( COUNT ( * ) AS ?n ) ?y ( SUM ( ?z ) AS ?s ) WHERE { ?x <a> ?y . ?y <b> ?z . } GROUP BY ?y ?x ORDER BY DESC ( ?n ) ?x LIMIT 3 OFFSET 1",
		"SELECT ( MIN ( ?x ) AS ?a ) ( MAX ( ?x ) AS ?b ) ( COUNT ( ?x ) AS ?c ) WHERE { ?x <a> ?x . } LIMIT 0",
		"ASK { VALUES ( ) { ( ) ( ) } VALUES ( ?x ) { } { OPTIONAL { OPTIONAL { } BIND ( COALESCE ( ?x , 2 ) AS ?w ) } } }",
	}
}

// wordsOfAll are texts of words, each kind among them.
func wordsOfAll() []string {
	return strings.Fields("ASK SELECT DISTINCT * WHERE { } ( ) . , + ! FILTER OPTIONAL MINUS BIND AS VALUES UNDEF SERVICE SILENT UNION GROUP ORDER BY ASC DESC LIMIT OFFSET " +
		"COUNT SUM MIN MAX ?x ?n ?q <a> \"b\" \"b\"@en _:b 0 7 123456789 1234567890 1.5 TRUE ask x")
}

// changed tells texts near a text of words with blanks between: a word less, more, another one, two words the other way round, an end or a beginning alone.
func changed(s string, told func(s string)) {
	words := strings.Fields(s)
	join := func(l ...[]string) {
		var all []string
		for _, x := range l {
			all = append(all, x...)
		}
		told(strings.Join(all, " "))
	}
	for i := range words {
		join(words[:i])
		join(words[i:])
		join(words[:i], words[i+1:])
		join(words[:i+1], words[i:])
		if i > 0 {
			join(words[:i-1], words[i:i+1], words[i-1:i], words[i+1:])
		}
		for _, w := range wordsOfAll() {
			join(words[:i], []string{w}, words[i:])
			join(words[:i], []string{w}, words[i+1:])
		}
	}
	for _, w := range wordsOfAll() {
		join(words, []string{w})
	}
}

// grower writes random texts of queries.
type grower struct {
	r     *rand.Rand
	fresh int // how many variables were made new
}

func (g *grower) one(l ...string) string { return l[g.r.IntN(len(l))] }

// many tells up to n texts, with blanks between.
func (g *grower) many(n int, made func() string) string {
	var l []string
	for range g.r.IntN(n + 1) {
		l = append(l, made())
	}
	return strings.Join(l, " ")
}

func (g *grower) name() string { return g.one("?x", "?y", "?z", "?w") }

// unused tells a variable that was not there yet, mostly.
func (g *grower) unused() string {
	if g.r.IntN(20) == 0 {
		return g.name()
	}
	g.fresh++
	return fmt.Sprintf("?n%d", g.fresh)
}

func (g *grower) formula() string {
	return g.one("?x = ?y", "?x", "( ?z + 1 ) * 2", "BOUND ( ?w ) || ! ?x", "IF ( ?x , 1 , \"a\"@en )", "- ?y < 3.5", "TRUE")
}

func (g *grower) group(depth int) string {
	return "{ " + g.many(4, func() string { return g.element(depth) }) + " }"
}

func (g *grower) element(depth int) string {
	k := g.r.IntN(11)
	if depth == 0 {
		k %= 7
	}
	switch k {
	case 3:
		return "FILTER ( " + g.formula() + " )"
	case 4:
		return "BIND ( " + g.formula() + " AS " + g.unused() + " )"
	case 5:
		return "VALUES ( ?x ?w ) { " + g.many(3, func() string { return "( " + g.one("UNDEF", "<a>", "\"b\"", "12") + " 1.5 )" }) + " }"
	case 6:
		return "VALUES ( " + g.one("?x", "?z") + " ) { " + g.many(2, func() string { return "( " + g.one("UNDEF", "<c>", "0") + " )" }) + " }"
	case 7:
		return "OPTIONAL " + g.group(depth-1)
	case 8:
		return "MINUS " + g.group(depth-1)
	case 9:
		return "SERVICE " + g.one("", "SILENT ") + "<e> " + g.group(0)
	case 10:
		return g.group(depth-1) + " " + g.many(2, func() string { return "UNION " + g.group(depth-1) })
	}
	return g.name() + " " + g.one("<a>", "<b>", "?w") + " " + g.one("?y", "?z", "\"b\"", "<c>", "2.0") + " ."
}

// query tells a text of a query, whose names are mostly where they may be.
func (g *grower) query() string {
	body := g.group(3)
	switch g.r.IntN(6) {
	case 0:
		return "ASK " + body
	case 1, 2:
		return "SELECT " + g.one("", "DISTINCT ") + "* WHERE " + body + g.slice()
	case 3:
		some := g.one("?x", "?y ?x", "?z ?w", "?y")
		return "SELECT " + some + " WHERE " + body + " ORDER BY " + g.one("", "?y ", "DESC ( ?w ) ") + strings.Fields(some)[0] + g.slice()
	}
	by := g.one("?x", "?y ?x", "?w ?y ?z")
	aggs := g.many(3, func() string {
		return "( " + g.one("COUNT ( * )", "COUNT ( ?x )", "SUM ( ?y )", "MIN ( ?z )", "MAX ( ?x )") + " AS " + g.unused() + " )"
	})
	return "SELECT " + g.one("DISTINCT ", "") + by + " " + aggs + " WHERE " + body + " GROUP BY " + by + g.slice()
}

func (g *grower) slice() string {
	return g.one("", " LIMIT 0", " LIMIT 12") + g.one("", " OFFSET 3", " OFFSET 0")
}
