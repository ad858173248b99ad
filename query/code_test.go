package query_test

import (
	"math"
	"math/rand/v2"
	"slices"
	"strings"
	"testing"

	"legation/api"
	"legation/query"
)

// P8.2: triples, with nothing between and with something.
func TestCodeOfTriples(t *testing.T) {
	for s, want := range map[string]string{
		"{ }":                          "B",
		"{ ?x <a> ?y . }":              "B[?x <a> ?y .]",
		"{ ?x ?y ?z . <a> <b> <c> . }": "B[?x ?y ?z . <a> <b> <c> .]",
		"{ ?x <a> \"b\"@en . ?x ?x ?x . ?x <a> 1.5 . ?x <a> \"1\"^^<t> . }": "B[?x <a> \"b\"@en . ?x ?x ?x . ?x <a> \"1.5\"^^<" + api.TypeDecimal + "> . ?x <a> \"1\"^^<t> .]",
		"{ ?x <a> ?y . ?x <a> ?y . }":                                       "B[?x <a> ?y . ?x <a> ?y .]",
		"{?x<a>?y.?y<b>\"c\".}":                                             "B[?x <a> ?y . ?y <b> \"c\" .]",
		"{ ?x <a> ?y . { } ?y <b> ?z . }":                                   "B[?x <a> ?y .] B J B[?y <b> ?z .] J",
		"{ ?x <a> ?y . FILTER ( ?x ) ?y <b> ?z . ?z <b> ?x . }":             "B[?x <a> ?y .] B[?y <b> ?z . ?z <b> ?x .] J F[?x]",
		"{ ?x <a> ?y . OPTIONAL { } ?y <b> ?z . }":                          "B[?x <a> ?y .] B L B[?y <b> ?z .] J",
		"{ ?x <a> ?y . MINUS { } ?y <b> ?z . }":                             "B[?x <a> ?y .] B M B[?y <b> ?z .] J",
		"{ ?x <a> ?y . BIND ( 1 AS ?n ) ?y <b> ?z . }":                      "B[?x <a> ?y .] E[\"1\"i n] B[?y <b> ?z .] J",
		"{ ?x <a> ?y . VALUES ( ?x ) { } ?y <b> ?z . }":                     "B[?x <a> ?y .] T[x :] J B[?y <b> ?z .] J",
		"{ ?x <a> ?y . SERVICE <e> { ?x <a> ?x . } ?y <b> ?z . }":           "B[?x <a> ?y .] B[?x <a> ?x .] S[e] J B[?y <b> ?z .] J",
	} {
		checkGroup(t, s, want)
	}
}

// P8.2: elements that stand by themselves, first and behind others.
func TestCodeOfPieces(t *testing.T) {
	for s, want := range map[string]string{
		"{ VALUES ( ) { } }":                                    "T[:]",
		"{ VALUES ( ) { ( ) } }":                                "T[: ()]",
		"{ VALUES ( ) { ( ) ( ) } }":                            "T[: () ()]",
		"{ VALUES ( ?x ) { } }":                                 "T[x :]",
		"{ VALUES ( ?y ?x ) { ( <a> UNDEF ) ( \"b\"@en 7 ) } }": "T[y x : (<a> -) (\"b\"@en \"7\"i)]",
		"{ VALUES ( ?x ) { ( 0 ) ( 007 ) ( 123456789 ) } }":     "T[x : (\"0\"i) (\"007\"i) (\"123456789\"i)]",
		"{ VALUES ( ?x ) { ( UNDEF ) ( 2.50 ) } }":              "T[x : (-) (\"2.50\"^^<" + api.TypeDecimal + ">)]",
		"{ VALUES ( ?x ) { } VALUES ( ?x ) { ( 1 ) } }":         "T[x :] T[x : (\"1\"i)] J",
		"{ SERVICE <e> { } }":                                   "B S[e]",
		"{ SERVICE SILENT <http://e/0> { ?x <a> ?y . } }":       "B[?x <a> ?y .] S[silent http://e/0]",
		"{ SERVICE <e> { ?x <a> ?y . FILTER ( ?x ) } SERVICE SILENT <e> { VALUES ( ?z ) { } } }": "B[?x <a> ?y .] F[?x] S[e] T[z :] S[silent e] J",
		"{ { } }":                                 "B",
		"{ { { { } } } }":                         "B",
		"{ { } { } }":                             "B B J",
		"{ { } UNION { } }":                       "B B U",
		"{ { } UNION { } { } }":                   "B B U B J",
		"{ { } { } UNION { } }":                   "B B B U J",
		"{ { } UNION { } UNION { } }":             "B B U B U",
		"{ { } UNION { } { } UNION { } }":         "B B U B B U J",
		"{ ?x <a> ?y . { } UNION { } UNION { } }": "B[?x <a> ?y .] B B U B U J",
		"{ { ?x <a> ?y . FILTER ( ?x ) } UNION { { ?z <a> ?y . } FILTER ( ?z ) } }": "B[?x <a> ?y .] F[?x] B[?z <a> ?y .] F[?z] U",
		"{ { { } UNION { } } UNION { { } { } } }":                                   "B B U B B J U",
		"{ { ?x <a> ?y . } ?x <b> ?z . VALUES ( ?x ) { } SERVICE <e> { } }":         "B[?x <a> ?y .] B[?x <b> ?z .] J T[x :] J B S[e] J",
	} {
		checkGroup(t, s, want)
	}
}

// P8.2: elements that stand on what is there, where nothing is and where something is; filters, in the group's end.
func TestCodeOnWhatIsThere(t *testing.T) {
	for s, want := range map[string]string{
		"{ OPTIONAL { } }":      "B B L",
		"{ MINUS { } }":         "B B M",
		"{ BIND ( ?x AS ?y ) }": "B E[?x y]",
		"{ FILTER ( ?x ) }":     "B F[?x]",
		"{ FILTER ( ?x ) FILTER ( ?y ) FILTER ( ?x ) }":                           "B F[?x] F[?y] F[?x]",
		"{ FILTER ( ?x ) ?x <a> ?y . FILTER ( ?y ) }":                             "B[?x <a> ?y .] F[?x] F[?y]",
		"{ FILTER ( ?x ) OPTIONAL { } }":                                          "B B L F[?x]",
		"{ FILTER ( ?x ) MINUS { } }":                                             "B B M F[?x]",
		"{ FILTER ( ?x ) BIND ( 1 AS ?y ) }":                                      "B E[\"1\"i y] F[?x]",
		"{ FILTER ( ?x ) { } FILTER ( ?y ) { } }":                                 "B B J F[?x] F[?y]",
		"{ OPTIONAL { } OPTIONAL { } MINUS { } BIND ( 1 AS ?x ) }":                "B B L B L B M E[\"1\"i x]",
		"{ OPTIONAL { FILTER ( ?x ) } }":                                          "B B L[?x]",
		"{ OPTIONAL { FILTER ( ?x ) FILTER ( ?y ) } }":                            "B B L[( ?x && ?y )]",
		"{ OPTIONAL { FILTER ( ?x ) FILTER ( ?y = 1 ) FILTER ( ?z ) } }":          "B B L[( ( ?x && ( ?y = \"1\"i ) ) && ?z )]",
		"{ OPTIONAL { FILTER ( ?x ) ?x <a> ?y . FILTER ( ?y || ?x ) } }":          "B B[?x <a> ?y .] L[( ?x && ( ?y || ?x ) )]",
		"{ OPTIONAL { { FILTER ( ?x ) } } }":                                      "B B F[?x] L",
		"{ OPTIONAL { { FILTER ( ?x ) } FILTER ( ?y ) } }":                        "B B F[?x] L[?y]",
		"{ OPTIONAL { OPTIONAL { FILTER ( ?x ) } FILTER ( ?y ) } FILTER ( ?z ) }": "B B B L[?x] L[?y] F[?z]",
		"{ OPTIONAL { MINUS { FILTER ( ?x ) } FILTER ( ?y ) } }":                  "B B B F[?x] M L[?y]",
		"{ MINUS { FILTER ( ?x ) } }":                                             "B B F[?x] M",
		"{ MINUS { ?x <a> ?y . FILTER ( ?x ) FILTER ( ?y ) } FILTER ( ?z ) }":     "B B[?x <a> ?y .] F[?x] F[?y] M F[?z]",
		"{ ?x <a> ?y . OPTIONAL { ?y <b> ?z . FILTER ( ?z > 1 ) } }":              "B[?x <a> ?y .] B[?y <b> ?z .] L[( ?z > \"1\"i )]",
		"{ ?x <a> ?y . MINUS { ?y <b> ?z . } BIND ( ?x + ?y AS ?z ) }":            "B[?x <a> ?y .] B[?y <b> ?z .] M E[( ?x + ?y ) z]",
		"{ BIND ( 1 AS ?x ) BIND ( ?x AS ?y ) ?z <a> ?x . }":                      "B E[\"1\"i x] E[?x y] B[?z <a> ?x .] J",
		"{ FILTER ( ( ?x ) ) BIND ( ( ?x ) AS ?z ) }":                             "B E[?x z] F[?x]",
		"{ { FILTER ( ?x ) } FILTER ( ?y ) }":                                     "B F[?x] F[?y]",
		"{ FILTER ( BOUND ( ?x ) && IF ( ?x , TRUE , 2 ) = COALESCE ( 1 ) ) }":    "B F[( BOUND ( ?x ) && ( IF ( ?x , \"true\"^^<" + api.TypeBoolean + "> , \"2\"i ) = COALESCE ( \"1\"i ) ) )]",
	} {
		checkGroup(t, s, want)
	}
}

// long tells a text whose first group has more elements ahead than a code may have operations.
func long(s string) string {
	return strings.Replace(s, "{", "{ "+strings.Repeat("OPTIONAL { } ", 65), 1)
}

// P8.2: words from which on no group can be read, however long its code would be.
func TestCodeOfNoGroup(t *testing.T) {
	for _, s := range []string{
		"", "}", "{", "( )", "x", "?x", "<a>", "1", "{ {", "{ { }", "{ . }", "{ ( ) }", "{ x }", "{ 1 }", "{ , }", "{ * }", "{ TRUE }", "{ WHERE }", "{ ASK { } }", "{ SELECT * WHERE { } }",
		"{ ?x }", "{ ?x <a> }", "{ ?x <a> ?y }", "{ ?x <a> ?y", "{ ?x <a> ?y .", "{ ?x <a> . ?y }", "{ ?x <a> ?y . . }", "{ . ?x <a> ?y }", "{ ?x <a> ?y ?z . }", "{ ?x <a> ?y , ?z . }", "{ ?x <a> ?y . ?z }",
		"{ ?x <a> 1 . }", "{ ?x <a> TRUE . }", "{ ?x <a> UNDEF . }", "{ ?x <a> ( ) . }", "{ ?x * ?y . }", "{ ?x <a> ?y ! }",
		"{ \"s\" <a> ?y . }", "{ ?x \"p\" ?y . }", "{ _:b <a> ?y . }", "{ ?x _:b ?y . }", "{ ?x <a> _:b . }", "{ 1.5 <a> ?y . }", "{ ?x 1.5 ?y . }", "{ ?x <a> ?y . \"s\" <a> ?z . }", "{ 1 <a> ?y . }",
		"{ FILTER }", "{ FILTER ?x }", "{ FILTER ( }", "{ FILTER ( ) }", "{ FILTER ( ?x }", "{ FILTER ?x ) }", "{ FILTER ( ?x ?y ) }", "{ FILTER ( ?x ) ) }", "{ FILTER ( ?x + ) }", "{ FILTER ( ?x ) . }", "{ FILTER { } }", "{ FILTER ( { } ) }",
		"{ FILTER ( _:b ) }", "{ FILTER ( ?x AS ?y ) }", "{ FILTER ( UNDEF ) }", "{ FILTER ( * ) }", "{ FILTER ( ?x , ?y ) }", "{ filter ( ?x ) }", "{ Filter ( ?x ) }", "{ FILTERS ( ?x ) }", "{ ( FILTER ?x ) }",
		"{ OPTIONAL }", "{ OPTIONAL ( ) }", "{ OPTIONAL ?x <a> ?y . }", "{ OPTIONAL { }", "{ OPTIONAL OPTIONAL { } }", "{ optional { } }", "{ OPTIONAL { } . }", "{ OPTIONAL { FILTER ( ) } }", "{ OPTIONAL { ?x } }", "{ OPTIONAL { } UNION { } }",
		"{ MINUS }", "{ MINUS { }", "{ MINUS ( ?x ) }", "{ MINUS ?x <a> ?y . }", "{ minus { } }", "{ MINUS { FILTER } }", "{ MINUS { } UNION { } }", "{ MINUS { ?x } }",
		"{ BIND }", "{ BIND ( ?x ) }", "{ BIND ( ?x AS ) }", "{ BIND ( AS ?x ) }", "{ BIND ( ?x AS <a> ) }", "{ BIND ( ?x AS 1 ) }", "{ BIND ( ?x ?y ) }", "{ BIND ?x AS ?y }", "{ BIND ( ?x AS ?y }", "{ BIND ( ?x AS ?y ?z ) }", "{ BIND ( ( ?x AS ?y ) }", "{ bind ( 1 AS ?x ) }",
		"{ BIND ( 1 as ?x ) }", "{ BIND ( 1 AS ( ?x ) ) }", "{ BIND { 1 AS ?x } }", "{ BIND ( 1 AS ?x ) . }", "{ BIND ( ) }", "{ BIND ( 1 , ?x ) }",
		"{ VALUES }", "{ VALUES ?x { } }", "{ VALUES ( }", "{ VALUES ( ?x }", "{ VALUES ( ?x { } }", "{ VALUES ( ?x ) }", "{ VALUES ( ?x ) { }", "{ VALUES ( ?x ) ( ) }", "{ VALUES ( ?x ) { <a> } }", "{ VALUES ( ?x ) { ( <a> } }", "{ VALUES ( ?x ) { ( <a> }", "{ VALUES ( ?x ) { <a> ) } }",
		"{ VALUES ( ?x , ?y ) { } }", "{ VALUES ( x ) { } }", "{ VALUES ( <a> ) { } }", "{ VALUES ( 1 ) { } }", "{ VALUES ( ?x ) { ( <a> , <b> ) } }", "{ VALUES ( ?x ) { ( TRUE ) } }", "{ VALUES ( ?x ) { ( undef ) } }", "{ VALUES ( ?x ) { ( 1 + 1 ) } }", "{ VALUES ( ?x ) { ( - 1 ) } }", "{ values ( ?x ) { } }",
		"{ VALUES ( * ) { } }", "{ VALUES ( ?x ) { ( ( <a> ) ) } }", "{ VALUES ( ?x ) { ( 1234567890 ) } }", "{ VALUES ( ?x ) { . } }", "{ VALUES ( ?x ) { ( <a> ) } . }", "{ VALUES ( ?x ) { { <a> } } }", "{ VALUES ( UNDEF ) { } }", "{ VALUES { } }", "{ VALUES ( ( ?x ) ) { } }",
		"{ SERVICE }", "{ SERVICE <e> }", "{ SERVICE { } }", "{ SERVICE SILENT { } }", "{ SERVICE SILENT SILENT <e> { } }", "{ SERVICE <e> SILENT { } }", "{ SERVICE ?x { } }", "{ SERVICE \"e\" { } }", "{ SERVICE e { } }", "{ SERVICE _:e { } }", "{ SERVICE <e> <f> { } }", "{ service <e> { } }", "{ SERVICE silent <e> { } }",
		"{ SERVICE <e> ( ) }", "{ SERVICE <e> { }", "{ SERVICE 1 { } }", "{ SERVICE <e> { FILTER } }", "{ SERVICE <e> ?x <a> ?y . }",
		"{ UNION { } }", "{ { } UNION }", "{ { } UNION UNION { } }", "{ { } UNION ?x <a> ?y . }", "{ ?x <a> ?y . UNION { } }", "{ { } union { } }", "{ { } UNION { }", "{ { } UNION ( ) }", "{ { } UNION OPTIONAL { } }", "{ { } . }", "{ { } UNION { } . }", "{ { } , { } }", "{ { } UNION { ?x } }",
	} {
		checkNoGroup(t, s, api.ErrForm)
		checkNoGroup(t, long(s), api.ErrForm)
	}
}

// P8.2: groups that can be read, whose code is none.
func TestCodeThatIsNone(t *testing.T) {
	for s, want := range map[string]api.Errno{
		"{ VALUES ( ?x ) { ( ) } }": api.ErrForm, "{ VALUES ( ?x ) { ( 1 2 ) } }": api.ErrForm, "{ VALUES ( ?x ?y ) { ( 1 2 ) ( 1 ) } }": api.ErrForm, "{ VALUES ( ) { ( 1 ) } }": api.ErrForm,
		"{ VALUES ( ?x ?x ) { } }": api.ErrForm, "{ VALUES ( ?x ?y ?x ) { ( 1 2 3 ) } }": api.ErrForm, "{ VALUES ( ?x ) { ( ?y ) } }": api.ErrForm, "{ VALUES ( ?x ) { ( _:b ) } }": api.ErrForm,
		"{ SERVICE <e> { SERVICE <f> { } } }": api.ErrForm, "{ SERVICE <e> { ?x <a> ?y . OPTIONAL { SERVICE SILENT <f> { } } } }": api.ErrForm,
		"{ ?x <a> ?y . BIND ( 1 AS ?x ) }": api.ErrScope, "{ BIND ( 1 AS ?x ) BIND ( 2 AS ?x ) }": api.ErrScope, "{ OPTIONAL { ?x <a> ?y . } BIND ( 1 AS ?y ) }": api.ErrScope,
		"{ VALUES ( ?x ) { } OPTIONAL { VALUES ( ?x ) { } BIND ( 1 AS ?x ) } }": api.ErrScope,
		"{ ?x <a> ?y . BIND ( 1 AS ?x ) VALUES ( ?x ) { ( ) } }":                api.ErrForm, "{ VALUES ( ?x ) { ( ) } BIND ( 1 AS ?x ) }": api.ErrForm, "{ ?x <a> ?y . BIND ( 1 AS ?x ) ?x }": api.ErrForm,
	} {
		checkNoGroup(t, s, want)
		checkNoGroup(t, s+" ?x", want)
		checkNoQuery(t, "ASK "+s, want)
		checkNoQuery(t, "SELECT * WHERE "+s, want)
		checkNoQuery(t, "ASK "+s+" ?x", api.ErrForm)
	}
	for s, want := range map[string]string{
		"{ ?x <a> ?y . MINUS { ?z <a> ?y . } BIND ( 1 AS ?z ) }": "B[?x <a> ?y .] B[?z <a> ?y .] M E[\"1\"i z]",
		"{ BIND ( 1 AS ?x ) ?x <a> ?y . }":                       "B E[\"1\"i x] B[?x <a> ?y .] J",
		"{ FILTER ( ?x ) BIND ( ?x AS ?x ) }":                    "B E[?x x] F[?x]",
		"{ SERVICE <e> { } OPTIONAL { SERVICE <e> { } } }":       "B S[e] B S[e] L",
	} {
		checkGroup(t, s, want)
	}
}

// P8.2: a group at any place of some words, with anything behind it; places that are none.
func TestCodeAtPlaces(t *testing.T) {
	l := lexed(t, "x { { ?x <a> ?y . } OPTIONAL { } } UNION { FILTER ( ?x ) } } {")
	for _, x := range []struct {
		at, end int
		code    string
	}{{1, 12, "B[?x <a> ?y .] B L"}, {2, 8, "B[?x <a> ?y .]"}, {9, 11, "B"}, {13, 19, "B F[?x]"}} {
		c, end, e := query.Code(l, x.at)
		if shown(c) != x.code || end != x.end || e != api.OK {
			t.Errorf("at %d: %s %d %d", x.at, shown(c), end, e)
		}
	}
	for at := range len(l) + 1 {
		checkCode(t, l, at)
	}
	for _, l := range [][]api.Token{nil, l[:1], l} {
		for _, at := range []int{-1, -2, len(l) + 1, len(l) + 2, math.MinInt, math.MaxInt, 1 << 32, -1 << 32} {
			if c, n, e := query.Code(l, at); len(c) != 0 || n != 0 || e != api.ErrRange {
				t.Errorf("%d words at %d: %s %d %d", len(l), at, shown(c), n, e)
			}
		}
		if c, n, e := query.Code(l, len(l)); len(c) != 0 || n != 0 || e != api.ErrForm {
			t.Errorf("%d words at their end: %s %d %d", len(l), shown(c), n, e)
		}
	}
}

// P8.2: each short row of a few words, in a group.
func TestEachShortRow(t *testing.T) {
	count := map[api.Errno]int{}
	each := func(n int, texts string) {
		few := lexed(t, texts)
		var more func(l []api.Token)
		more = func(l []api.Token) {
			count[checkCode(t, l, 0)]++
			if t.Failed() {
				t.FailNow()
			}
			if len(l) > n {
				return
			}
			for _, w := range few {
				more(append(slices.Clip(l), w))
			}
		}
		more(few[:1])
	}
	each(3, "{ } ( ) . ?x <a> \"b\" 1 FILTER OPTIONAL MINUS BIND AS VALUES UNDEF SERVICE SILENT UNION *")
	each(6, "{ } OPTIONAL UNION SERVICE <a>")
	each(7, "{ } ?x . <a>")
	if count[api.OK] < 500 {
		t.Errorf("%v", count)
	}
}

// P8.2: as many of each thing as may be, and one more.
func TestCodeOfMany(t *testing.T) {
	triples := func(n int) string { return strings.Repeat("?x <a> ?y . ", n) }
	groups := func(n int) string { return strings.Repeat("{ } ", n) }
	rows := func(n int) string { return "{ VALUES ( ?x ) { " + strings.Repeat("( 1 ) ", n) + "} }" }
	var names []string
	for i := range api.MaxVars + 1 {
		names = append(names, "?v"+strings.Repeat("x", i))
	}
	columns := func(n int) string { return "{ VALUES ( " + strings.Join(names[:n], " ") + " ) { } }" }
	sum := func(n int) string { return "( 1" + strings.Repeat("+ 1", n/2) + " )" } // of n parts, n being odd
	for s, want := range map[string]api.Errno{
		"{ " + triples(32) + "}": api.OK, "{ " + triples(33) + "}": api.ErrForm, "{ " + triples(32) + "{ } " + triples(32) + "}": api.OK,
		rows(api.MaxBatch): api.OK, rows(api.MaxBatch + 1): api.ErrForm, columns(api.MaxVars): api.OK, columns(api.MaxVars + 1): api.ErrForm,
		"{ " + groups(64) + "}": api.OK, "{ " + groups(64) + "FILTER ( 1 ) }": api.OK, "{ " + groups(65) + "}": api.ErrLong, "{ " + groups(64) + "FILTER ( 1 ) FILTER ( 1 ) }": api.ErrLong,
		"{ " + groups(300) + "}": api.ErrLong, "{ " + groups(300) + "x }": api.ErrForm, "{ " + groups(300): api.ErrForm, "{ " + groups(65) + "?x <a> _:b . }": api.ErrForm,
		"{ " + groups(65) + "VALUES ( ?x ) { ( ) } }": api.ErrLong, "{ " + groups(65) + triples(33) + "}": api.ErrLong, "{ " + groups(65) + "BIND ( 1 AS ?x ) BIND ( 1 AS ?x ) }": api.ErrLong,
		"{ FILTER " + sum(255) + " }": api.OK, "{ FILTER " + sum(257) + " }": api.ErrForm, "{ FILTER ( ! " + sum(255) + " ) }": api.OK, "{ FILTER ( ! ! " + sum(255) + " ) }": api.ErrForm,
		"{ OPTIONAL { FILTER " + sum(127) + " FILTER ( ! " + sum(127) + " ) } }": api.OK, "{ OPTIONAL { FILTER " + sum(127) + " FILTER " + sum(129) + " } }": api.ErrForm,
		"{ FILTER " + sum(127) + " FILTER " + sum(129) + " }": api.OK, "{ OPTIONAL { { FILTER " + sum(127) + " FILTER " + sum(129) + " } } }": api.OK,
		"{ BIND ( " + sum(255) + " AS ?x ) }": api.OK, "{ BIND ( " + sum(257) + " AS ?x ) }": api.ErrForm,
	} {
		l := lexed(t, s)
		if c, n, e := query.Code(l, 0); e != want || e != api.OK && (len(c) != 0 || n != 0) {
			t.Errorf("%s: %d; not %d", brief(s), e, want)
		}
		if len(l) < 200 {
			checkCode(t, l, 0)
		}
	}
}

// P8.2: groups nested as deep as anything may be.
func TestCodeOfDeepGroups(t *testing.T) {
	const deep = 1 << 16
	opening, closing, optional := lexed(t, "{"), lexed(t, "}"), lexed(t, "{ OPTIONAL")
	l := slices.Concat(slices.Repeat(opening, deep), slices.Repeat(closing, deep))
	if c, n, e := query.Code(l, 0); shown(c) != "B" || n != len(l) || e != api.OK {
		t.Errorf("%s %d %d", brief(shown(c)), n, e)
	}
	if c, n, e := query.Code(l, deep-1); shown(c) != "B" || n != deep+1 || e != api.OK {
		t.Errorf("%s %d %d", brief(shown(c)), n, e)
	}
	for _, x := range []struct {
		l    []api.Token
		want api.Errno
	}{
		{l[:2*deep-1], api.ErrForm}, {l[:deep], api.ErrForm}, {l[deep:], api.ErrForm},
		{slices.Concat(slices.Repeat(optional, deep), opening, slices.Repeat(closing, deep+1)), api.ErrLong},
		{slices.Repeat(optional, deep), api.ErrForm},
	} {
		if c, n, e := query.Code(x.l, 0); len(c) != 0 || n != 0 || e != x.want {
			t.Errorf("%s %d %d; not %d", brief(shown(c)), n, e, x.want)
		}
	}
}

// P8.2: words that no text has.
func TestCodeOfOddWords(t *testing.T) {
	base := lexed(t, "{ ?x <a> ?y . BIND ( ?x AS ?z ) VALUES ( ?x ) { ( 1 ) ( <a> ) } SERVICE <e> { } }")
	odd := []api.Token{
		{}, {Kind: -1}, {Kind: 6, Text: "{"}, {Kind: math.MaxInt, Text: "{"}, {Kind: api.TVar}, {Kind: api.TVar, Text: "9"}, {Kind: api.TVar, Text: "x y"}, {Kind: api.TNum},
		{Kind: api.TWord}, {Kind: api.TWord, Text: "{"}, {Kind: api.TWord, Text: "}"}, {Kind: api.TWord, Text: "."}, {Kind: api.TSign}, {Kind: api.TSign, Text: "FILTER"}, {Kind: api.TSign, Text: "UNDEF"},
		{Kind: api.TTerm, Term: api.Term{Kind: api.Iri}}, {Kind: api.TTerm, Term: api.Term{Kind: api.Iri, Text: " "}}, {Kind: api.TTerm, Term: api.Term{Kind: api.Literal, Text: "\x00"}}, {Kind: api.TTerm, Term: api.Term{Kind: -1}}, {Kind: api.TTerm, Term: api.Term{Kind: api.Blank, Text: "b"}},
	}
	for i, was := range base {
		for _, w := range odd {
			l := slices.Clone(base)
			l[i] = w
			if c, n, e := query.Code(l, 0); len(c) != 0 || n != 0 || e != api.ErrForm {
				if i != 7 || w.Kind != api.TNum { // in a formula digits may have any text
					t.Errorf("%+v at %d: %s %d %d", w, i, shown(c), n, e)
				}
			}
		}
		for _, kind := range []int{api.TWord, api.TSign, 0} {
			l := slices.Clone(base)
			l[i].Kind = kind
			if e := checkCode(t, l, 0); kind != was.Kind && e != api.ErrForm {
				t.Errorf("kind %d at %d: %d", kind, i, e)
			}
		}
	}
	l := slices.Clone(base)
	for i := range l { // what a word has beside its own says nothing, nor where it stood
		l[i].At = -i
		if l[i].Kind != api.TTerm {
			l[i].Term = api.Term{Kind: api.Iri, Text: "other"}
		}
	}
	c, n, e := query.Code(l, 0)
	want, end, _ := query.Code(base, 0)
	if !same(c, want) || n != end || e != api.OK {
		t.Errorf("%s %d %d", shown(c), n, e)
	}
}

// P8.2: words, and what lies behind them, stay as they are and are not read; what is answered is new, and shares no room.
func TestCodeUntouched(t *testing.T) {
	g := &grower{r: rand.New(rand.NewPCG(8, 1))}
	for range 300 {
		l := lexed(t, g.group(3))
		room := slices.Concat(l, l)
		was := slices.Clone(room)
		c, n, e := query.Code(room[:len(l)], 0)
		was2 := tidied(c)
		again, n2, e2 := query.Code(l, 0)
		if !same(c, again) || n != n2 || e != e2 {
			t.Fatalf("%s: %s %d %d; then %s %d %d", brief(l), shown(c), n, e, shown(again), n2, e2)
		}
		for i := range again {
			o := &again[i]
			fill(o.Triples, api.Triple{})
			fill(o.Table.Vars, "other")
			fill(o.Table.Rows, nil)
			fill(o.Formula, api.Part{})
		}
		fill(again, api.Op{})
		if !same(c, was2) || !slices.Equal(room, was) {
			t.Fatalf("%s: changed", brief(l))
		}
		for i := range c { // what goes behind a list's end is in no other list
			o := &c[i]
			_ = append(o.Triples, api.Triple{})
			_ = append(o.Table.Vars, "other")
			_ = append(o.Table.Rows, nil)
			for _, row := range o.Table.Rows {
				_ = append(row, api.Term{Kind: api.Iri, Text: "other"})
			}
			_ = append(o.Formula, api.Part{Kind: -7})
		}
		if !same(c, was2) {
			t.Fatalf("%s: lists share room", brief(l))
		}
		if n > 1 {
			if c, n, e := query.Code(room[:n-1], 0); len(c) != 0 || n != 0 || e != api.ErrForm {
				t.Fatalf("%s: %s %d %d", brief(l), shown(c), n, e)
			}
		}
	}
}

// fill lays something all over a list.
func fill[T any](l []T, x T) {
	for i := range l {
		l[i] = x
	}
}
