package result

import (
	"iter"
	"strconv"
	"strings"

	"legation/api"
	"legation/term"
)

const (
	lineEnd   = "\n"
	cellEnd   = "\t"
	rowsWord  = "rows"
	errorWord = "error"
	trueWord  = "true"
	falseWord = "false"
)

// Put tells r's bytes.
func Put(r api.Reply) (string, api.Errno) {
	if e := Check(r); e != api.OK {
		return "", e
	}
	var b strings.Builder
	for s := range lines(r) {
		if b.Len()+len(s)+len(lineEnd) > api.MaxMessage {
			return "", api.ErrLong
		}
		b.WriteString(s)
		b.WriteString(lineEnd)
	}
	return b.String(), api.OK
}

// Get tells the right reply whose bytes are b.
func Get(b string) (api.Reply, api.Errno) {
	if len(b) > api.MaxMessage {
		return api.Reply{}, api.ErrLong
	}
	r := read(b)
	if s, e := Put(r); e != api.OK || s != b { // of whatever is not as Put writes it, other bytes are made anew than those that came
		return api.Reply{}, api.ErrForm
	}
	return r, api.OK
}

// lines tells a right reply's lines one by one, so that of a table that is too long for a message not all are made.
func lines(r api.Reply) iter.Seq[string] {
	return func(yield func(string) bool) {
		more := yield(strconv.Itoa(r.Id)) && yield(word(r))
		if r.Kind != api.RTable {
			return
		}
		vars := r.Table.Vars
		more = more && yield(line(len(vars), func(i int) api.Term { return variable(vars[i]) }))
		for _, row := range r.Table.Rows {
			more = more && yield(line(len(row), func(i int) api.Term { return row[i] }))
		}
	}
}

// word tells the line of a right reply that tells its Kind.
func word(r api.Reply) string {
	switch {
	case r.Kind == api.RTable:
		return rowsWord
	case r.Kind == api.RError:
		return errorWord + " " + strconv.Itoa(int(r.Err))
	case r.Truth:
		return trueWord
	}
	return falseWord
}

// line tells a line of so many cells, the texts of the terms that cell tells.
func line(cells int, cell func(i int) api.Term) string {
	l := make([]string, cells)
	for i := range l {
		l[i], _ = term.Text(cell(i)) // a right reply's terms are right
	}
	return strings.Join(l, cellEnd)
}

func variable(name string) api.Term { return api.Term{Kind: api.Var, Text: name} }

// read tells the reply whose bytes are b, if they are one's; of others it tells some reply with other bytes, or one that is not right.
func read(b string) api.Reply {
	l := strings.Split(strings.TrimSuffix(b, lineEnd), lineEnd)
	if len(l) < 2 {
		return api.Reply{}
	}
	id, _ := strconv.Atoi(l[0])
	r := api.Reply{Id: id}
	switch first, rest, _ := strings.Cut(l[1], " "); first {
	case rowsWord:
		r.Kind, r.Table = api.RTable, readTable(l[2:])
	case trueWord, falseWord:
		r.Kind, r.Truth = api.RTruth, first == trueWord
	case errorWord:
		n, _ := strconv.Atoi(rest)
		r.Kind, r.Err = api.RError, api.Errno(n)
	}
	return r
}

// readTable tells the table of a line of variables, and of one for each row.
func readTable(l []string) api.Table {
	var t api.Table
	if len(l) == 0 {
		return t
	}
	for _, x := range readLine(l[0], l[0] == "") {
		t.Vars = append(t.Vars, x.Text)
	}
	for _, s := range l[1:] {
		t.Rows = append(t.Rows, readLine(s, len(t.Vars) == 0))
	}
	return t
}

// readLine tells the terms whose texts are a line's cells; where there are no columns, an empty line has no cell, elsewhere one of None.
func readLine(s string, noColumns bool) []api.Term {
	if noColumns {
		return nil
	}
	cells := strings.Split(s, cellEnd)
	row := make([]api.Term, len(cells))
	for i, c := range cells {
		row[i], _ = term.Read(c)
	}
	return row
}
