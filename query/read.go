package query

import (
	"strconv"

	"legation/api"
	"legation/scope"
)

// reader goes over words, and gathers the query that they tell, or just a group's code. Where one of its reading methods answers false, nothing can be read at all: each is called just where what it reads must stand.
type reader struct {
	words
	query api.Query
}

// read reads a query.
func (r *reader) read() bool {
	r.query.Limit = -1
	if r.word("ASK") {
		r.query.Ask = true
		return r.group()
	}
	return r.word("SELECT") && r.table() && r.grouping() && r.ordering() && r.count("LIMIT", &r.query.Limit) && r.count("OFFSET", &r.query.Offset)
}

// table reads what is selected, and the group that it is selected of.
func (r *reader) table() bool {
	r.query.Distinct = r.word("DISTINCT")
	every := r.sign(all)
	if !every && !r.columns() || !r.word("WHERE") || !r.group() {
		return false
	}
	if every { // of a code that is none there are no names, and Check tells why
		r.query.Vars, _ = scope.InScope(r.query.Code, len(r.query.Code)-1)
	}
	return true
}

func (r *reader) columns() bool {
	for more := true; more; more = !r.is(api.TWord, "WHERE") {
		if !r.column() {
			return false
		}
	}
	return true
}

func (r *reader) column() bool {
	if r.sign(opening) {
		return r.aggregate() && r.sign(closing)
	}
	name, ok := r.variable()
	r.query.Vars = append(r.query.Vars, name)
	return ok
}

// aggregate reads one between its outer brackets.
func (r *reader) aggregate() bool {
	a := api.Agg{Kind: aggregateKind(r.next())}
	over, ok := r.over(a.Kind)
	if !ok || !r.word("AS") {
		return false
	}
	name, ok := r.variable()
	a.Over, a.Name = over, name
	r.query.Aggs = append(r.query.Aggs, a)
	r.query.Vars = append(r.query.Vars, name)
	return ok
}

// aggregateKind tells the kind that a word stands for; 0, if for none.
func aggregateKind(t api.Token) int {
	if t.Kind != api.TWord {
		return 0
	}
	switch t.Text {
	case "COUNT":
		return api.ACount
	case "SUM":
		return api.ASum
	case "MIN":
		return api.AMin
	case "MAX":
		return api.AMax
	}
	return 0
}

// over reads what an aggregate of that kind is of, in its brackets.
func (r *reader) over(kind int) (string, bool) {
	if kind == 0 || !r.sign(opening) {
		return "", false
	}
	if kind == api.ACount && r.sign(all) {
		return "", r.sign(closing)
	}
	name, ok := r.variable()
	return name, ok && r.sign(closing)
}

// grouping reads the variables that rows are grouped by, if it is said.
func (r *reader) grouping() bool {
	q := &r.query
	if r.word("GROUP") {
		for more := r.word("BY"); more; more = r.ahead().Kind == api.TVar {
			name, ok := r.variable()
			if !ok {
				return false
			}
			q.Group = append(q.Group, name)
		}
		if len(q.Group) == 0 {
			return false
		}
	}
	q.Grouped = mustBeGrouped(*q)
	return true
}

// ordering reads the keys that rows are ordered by, if it is said.
func (r *reader) ordering() bool {
	if !r.word("ORDER") {
		return true
	}
	for more := r.word("BY"); more; more = r.isKey() {
		k, ok := r.key()
		if !ok {
			return false
		}
		r.query.Order = append(r.query.Order, k)
	}
	return len(r.query.Order) > 0
}

// isKey tells whether the word ahead begins a key.
func (r *reader) isKey() bool {
	return r.ahead().Kind == api.TVar || r.is(api.TWord, "ASC") || r.is(api.TWord, "DESC")
}

func (r *reader) key() (api.Key, bool) {
	taken := r.variable
	desc := r.word("DESC")
	if desc || r.word("ASC") {
		taken = r.bracketed
	}
	name, ok := taken()
	return api.Key{Name: name, Desc: desc}, ok
}

// count reads digits behind a word, if that stands there.
func (r *reader) count(word string, n *int) bool {
	if !r.word(word) {
		return true
	}
	s, ok := r.digits()
	*n, _ = strconv.Atoi(s) // of digits that may be there it has no error
	return ok
}
