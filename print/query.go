package print

import (
	"strconv"

	"legation/api"
)

// aggregates are the aggregates' words, each at its kind.
var aggregates = [...]string{api.ACount: "COUNT", api.ASum: "SUM", api.AMin: "MIN", api.AMax: "MAX"}

// query lays down a right query, whose code is the printer's.
func (p *printer) query(q api.Query) {
	if q.Ask {
		p.lay("ASK")
		p.whole()
		return
	}
	p.lay("SELECT")
	if q.Distinct {
		p.lay("DISTINCT")
	}
	p.columns(q.Vars, q.Aggs)
	p.lay("WHERE")
	p.whole()
	p.grouping(q.Group)
	p.ordering(q.Order)
	p.count("LIMIT", q.Limit, -1)
	p.count("OFFSET", q.Offset, 0)
}

func (p *printer) columns(names []string, l []api.Agg) {
	if len(names) == 0 {
		p.lay(all)
	}
	for _, s := range names {
		if len(l) > 0 && l[0].Name == s { // they come among the columns in their order
			p.aggregate(l[0])
			l = l[1:]
		} else {
			p.lay(variable(s))
		}
	}
}

func (p *printer) aggregate(a api.Agg) {
	over := all
	if a.Over != "" {
		over = variable(a.Over)
	}
	p.lay(opening, aggregates[a.Kind], opening, over, closing, "AS", variable(a.Name), closing)
}

func (p *printer) grouping(names []string) {
	if len(names) > 0 {
		p.lay("GROUP", "BY")
		p.variables(names)
	}
}

func (p *printer) ordering(l []api.Key) {
	if len(l) > 0 {
		p.lay("ORDER", "BY")
	}
	for _, k := range l {
		p.lay(direction(k), opening, variable(k.Name), closing)
	}
}

func direction(k api.Key) string {
	if k.Desc {
		return "DESC"
	}
	return "ASC"
}

// count lays down a number behind its word, but if it is the one that is not told.
func (p *printer) count(word string, n, untold int) {
	if n != untold {
		p.lay(word, strconv.Itoa(n))
	}
}
