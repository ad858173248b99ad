package print

import (
	"legation/api"
	"legation/scope"
)

// printer lays down a right code, and what is made of its table.
type printer struct {
	words
	code   []api.Op
	firsts []int // of each operation the place of the first one of those whose result it makes
}

// firstsOf tells the firsts of a right code, all in one go: scope.From would check the code again for each.
func firstsOf(c []api.Op) []int {
	l := make([]int, len(c))
	for i, o := range c {
		first := i
		for range scope.Needs(o) { // what it needs stands just ahead of it, the last one last
			first = l[first-1]
		}
		l[i] = first
	}
	return l
}

// whole lays down the whole code.
func (p *printer) whole() {
	p.operation(len(p.code) - 1)
}

// operation lays down operation i.
func (p *printer) operation(i int) {
	o := p.code[i]
	p.lay(begin)
	switch o.Kind {
	case api.OBasic:
		p.triples(o.Triples)
	case api.OTable:
		p.table(o.Table)
	case api.OFilter:
		p.operation(i - 1)
		p.filter(o.Formula)
	case api.OExtend:
		p.operation(i - 1)
		p.lay("BIND", opening)
		p.formula(o.Formula)
		p.lay("AS", variable(o.Name), closing)
	case api.OService:
		p.service(o)
		p.operation(i - 1)
	default:
		p.operation(p.firsts[i-1] - 1)
		p.second(o, i-1)
	}
	p.lay(end)
}

// second lays down the second one, at place i, of the two that o needs, as it stands behind the first.
func (p *printer) second(o api.Op, i int) {
	switch o.Kind {
	case api.OLeft:
		p.lay("OPTIONAL", begin)
		p.operation(i)
		if len(o.Formula) > 0 {
			p.filter(o.Formula)
		}
		p.lay(end)
	case api.OUnion, api.OMinus:
		p.lay(mark(o.Kind))
		fallthrough
	case api.OJoin:
		p.operation(i)
	}
}

// mark tells the word that stands between the two that OUnion or OMinus needs.
func mark(kind int) string {
	if kind == api.OUnion {
		return "UNION"
	}
	return "MINUS"
}

func (p *printer) triples(l []api.Triple) {
	for _, t := range l {
		p.terms(t.S, t.P, t.O)
		p.lay(stop)
	}
}

func (p *printer) table(t api.Table) {
	p.lay("VALUES", opening)
	p.variables(t.Vars)
	p.lay(closing, begin)
	for _, row := range t.Rows {
		p.lay(opening)
		p.terms(row...)
		p.lay(closing)
	}
	p.lay(end)
}

func (p *printer) filter(f []api.Part) {
	p.lay("FILTER", opening)
	p.formula(f)
	p.lay(closing)
}

// service lays down what stands ahead of an OService's code.
func (p *printer) service(o api.Op) {
	p.lay("SERVICE")
	if o.Silent {
		p.lay("SILENT")
	}
	p.terms(api.Term{Kind: api.Iri, Text: o.Name})
}
