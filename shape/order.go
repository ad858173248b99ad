package shape

import (
	"cmp"
	"slices"

	"legation/api"
	"legation/number"
	"legation/table"
	"legation/term"
)

// The sorts of values, in their order.
const (
	sortNone = iota
	sortBlank
	sortIri
	sortNumber
	sortOther
)

// value is a term with what the order of values asks of it. That is found out once a term, since a row is held against many.
type value struct {
	sort   int
	number api.Num // of sortNumber
	term   api.Term
}

// rank is a column by which rows are held against each other.
type rank struct {
	column int
	desc   bool
}

// line is a row with its values.
type line struct {
	row    []api.Term
	values []value
}

// Compare tells by -1, 0 or 1 which of two terms is ahead by the order of values, or that they are the same.
func Compare(a, b api.Term) int {
	return compareValues(valueOf(a), valueOf(b))
}

// Order tells the rows in order, by keys.
func Order(t api.Table, keys []api.Key) (api.Table, api.Errno) {
	if e := table.Check(t); e != api.OK {
		return api.Table{}, e
	}
	lines := make([]line, len(t.Rows))
	for i, row := range t.Rows {
		lines[i] = lineOf(row)
	}
	ranks := ranksOf(t.Vars, keys)
	slices.SortFunc(lines, func(a, b line) int { return compareLines(a, b, ranks) })
	rows := make([][]api.Term, len(lines))
	for i, l := range lines {
		rows[i] = l.row
	}
	return copied(t.Vars, rows), api.OK
}

// ranksOf tells each column once: first those of keys, then all others. A column that came ahead says nothing more, since rows that are held by a later one have the same there.
func ranksOf(vars []string, keys []api.Key) []rank {
	columns := columnsOf(vars)
	var l []rank
	for _, k := range keys {
		if column, is := columns[k.Name]; is {
			l = append(l, rank{column, k.Desc})
			delete(columns, k.Name)
		}
	}
	for i, name := range vars {
		if _, is := columns[name]; is {
			l = append(l, rank{column: i})
		}
	}
	return l
}

func lineOf(row []api.Term) line {
	l := line{row, make([]value, len(row))}
	for i, t := range row {
		l.values[i] = valueOf(t)
	}
	return l
}

func compareLines(a, b line, ranks []rank) int {
	for _, r := range ranks {
		n := compareValues(a.values[r.column], b.values[r.column])
		if r.desc {
			n = -n
		}
		if n != 0 {
			return n
		}
	}
	return 0
}

func valueOf(t api.Term) value {
	switch t.Kind {
	case api.None:
		return value{sort: sortNone, term: t}
	case api.Blank:
		return value{sort: sortBlank, term: t}
	case api.Iri:
		return value{sort: sortIri, term: t}
	}
	if n, e := number.Of(t); e == api.OK {
		return value{sort: sortNumber, number: n, term: t}
	}
	return value{sort: sortOther, term: t}
}

func compareValues(a, b value) int {
	if a.sort != b.sort {
		return cmp.Compare(a.sort, b.sort)
	}
	if a.sort == sortNumber {
		if n, _ := number.Compare(a.number, b.number); n != 0 {
			return n
		}
	}
	return term.Compare(a.term, b.term)
}
