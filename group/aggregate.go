package group

import (
	"slices"

	"legation/api"
	"legation/number"
	"legation/shape"
)

// comesTo tells what an aggregate comes to in the group of these rows.
func comesTo(a api.Agg, columns map[string]int, rows [][]api.Term) api.Term {
	if a.Over == "" {
		return count(len(rows))
	}
	bound := boundIn(rows, columns[a.Over])
	switch {
	case a.Kind == api.ACount:
		return count(len(bound))
	case a.Kind == api.ASum:
		return sumOf(bound)
	case len(bound) == 0:
		return api.Term{}
	case a.Kind == api.AMin:
		return slices.MinFunc(bound, shape.Compare)
	}
	return slices.MaxFunc(bound, shape.Compare)
}

// boundIn tells the terms of a column, row by row, without those that are None.
func boundIn(rows [][]api.Term, column int) []api.Term {
	var l []api.Term
	for _, row := range rows {
		if row[column].Kind != api.None {
			l = append(l, row[column])
		}
	}
	return l
}

func count(n int) api.Term {
	t, _ := number.Term(api.Num{Value: int64(n)}) // never refused: there are at most MaxRows rows
	return t
}

// sumOf tells the sum of terms as a term; None, where one can't be added, since what comes behind it can't mend that.
func sumOf(terms []api.Term) api.Term {
	add := adder()
	sum, e := api.Num{}, api.OK
	for _, t := range terms {
		if sum, e = add(t); e != api.OK {
			return api.Term{}
		}
	}
	t, _ := number.Term(sum)
	return t
}

// adder tells a function that adds a term to the sum that it keeps, and tells what that is then.
func adder() func(t api.Term) (api.Num, api.Errno) {
	var sum api.Num
	return func(t api.Term) (api.Num, api.Errno) {
		n, e := number.Of(t)
		if e != api.OK {
			return api.Num{}, e
		}
		sum, e = number.Add(sum, n)
		return sum, e
	}
}
