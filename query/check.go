package query

import (
	"slices"

	"legation/api"
	"legation/scope"
	"legation/term"
)

const (
	maxAggregates = 8
	maxCount      = 999999999 // rows that a Limit or an Offset may ask for
)

// Check answers the error of a query's Code, ErrForm of a query that is in no form whatever is in scope, and ErrScope of one that is not right just for what is.
func Check(q api.Query) api.Errno {
	if e := scope.Check(q.Code); e != api.OK {
		return e
	}
	if q.Ask {
		return failing(isBare(q), api.ErrForm)
	}
	if !isFormed(q) {
		return api.ErrForm
	}
	inScope, _ := scope.InScope(q.Code, len(q.Code)-1)
	return failing(isScoped(q, inScope), api.ErrScope)
}

// failing answers e where something is not as it must be.
func failing(is bool, e api.Errno) api.Errno {
	if is {
		return api.OK
	}
	return e
}

// isBare tells whether a query that asks has just its Code.
func isBare(q api.Query) bool {
	lists := len(q.Vars) + len(q.Aggs) + len(q.Group) + len(q.Order)
	return lists == 0 && !q.Distinct && !q.Grouped && q.Limit == -1 && q.Offset == 0
}

func isFormed(q api.Query) bool {
	counts := -1 <= q.Limit && q.Limit <= maxCount && 0 <= q.Offset && q.Offset <= maxCount
	return counts && q.Grouped == mustBeGrouped(q) && areNames(q.Vars) && areNames(q.Group) && areAggregates(q.Aggs) && areKeys(q.Order)
}

func mustBeGrouped(q api.Query) bool {
	return len(q.Aggs) > 0 || len(q.Group) > 0
}

// areNames tells whether these are names, each once, and not too many.
func areNames(l []string) bool {
	if len(l) > api.MaxVars {
		return false
	}
	for i, s := range l {
		if !term.IsName(s) || slices.Contains(l[:i], s) {
			return false
		}
	}
	return true
}

func areAggregates(l []api.Agg) bool {
	if len(l) > maxAggregates {
		return false
	}
	names := make([]string, len(l))
	for i, a := range l {
		if a.Kind < api.ACount || a.Kind > api.AMax || !isOfName(a) {
			return false
		}
		names[i] = a.Name
	}
	return areNames(names)
}

// isOfName tells whether an aggregate's Over is a name, or empty of one that counts rows.
func isOfName(a api.Agg) bool {
	return term.IsName(a.Over) || a.Over == "" && a.Kind == api.ACount
}

func areKeys(l []api.Key) bool {
	return len(l) <= api.MaxVars && !slices.ContainsFunc(l, func(k api.Key) bool {
		return !term.IsName(k.Name)
	})
}

// isScoped tells whether each name of a query in form is where it may be, with these in scope.
func isScoped(q api.Query, inScope []string) bool {
	if len(q.Vars) == 0 && (len(inScope) > 0 || q.Grouped) {
		return false
	}
	plain, ok := withoutAggregates(q.Vars, q.Aggs)
	if !ok || !areIn(plain, inScope) || !areIn(q.Group, inScope) {
		return false
	}
	if q.Grouped && !areIn(plain, q.Group) {
		return false
	}
	misplaced := func(a api.Agg) bool { return !isPlaced(a, inScope) }
	foreign := func(k api.Key) bool { return !slices.Contains(q.Vars, k.Name) }
	return !slices.ContainsFunc(q.Aggs, misplaced) && !slices.ContainsFunc(q.Order, foreign)
}

// withoutAggregates tells the columns that are no aggregate's Name; false, if the Names do not stand among the columns in their order.
func withoutAggregates(columns []string, l []api.Agg) ([]string, bool) {
	var plain []string
	for _, s := range columns {
		if len(l) > 0 && l[0].Name == s {
			l = l[1:]
		} else {
			plain = append(plain, s)
		}
	}
	return plain, len(l) == 0
}

// isPlaced tells whether an aggregate is of rows or of something in scope, and its own Name not there.
func isPlaced(a api.Agg, inScope []string) bool {
	return (a.Over == "" || slices.Contains(inScope, a.Over)) && !slices.Contains(inScope, a.Name)
}

// areIn tells whether all of some names are among others.
func areIn(l, others []string) bool {
	return !slices.ContainsFunc(l, func(s string) bool { return !slices.Contains(others, s) })
}
