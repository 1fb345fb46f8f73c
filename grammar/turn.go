package grammar

import (
	"slices"

	"gantry/api"
)

// Reverse answers g with each right side turned round.
func Reverse(g api.Grammar) (api.Grammar, api.Errno) {
	if e, _ := Check(g); e != api.OK {
		return api.Grammar{}, e
	}
	turned := clone(g)
	for _, p := range turned.Prods {
		slices.Reverse(p.Right)
	}
	return turned, api.OK
}

// Renumber answers g with terminal i as terms[i], and nonterminal i as nons[i].
func Renumber(g api.Grammar, terms []int, nons []int) (api.Grammar, api.Errno) {
	if e, _ := Check(g); e != api.OK {
		return api.Grammar{}, e
	}
	// All of both lists is asked for one fault ahead of the next one.
	switch {
	case len(terms) != len(g.Terms) || len(nons) != len(g.Nons):
		return api.Grammar{}, api.ErrCount
	case !within(terms) || !within(nons):
		return api.Grammar{}, api.ErrRange
	case hasTwice(terms) || hasTwice(nons):
		return api.Grammar{}, api.ErrTwice
	}
	return numbering{terms: terms, nons: nons}.grammar(g), api.OK
}

// numbering is the new numbers of terminals and of nonterminals, by the old ones.
type numbering struct {
	terms []int
	nons  []int
}

func (n numbering) grammar(g api.Grammar) api.Grammar {
	out := clone(g)
	out.Terms = moved(g.Terms, n.terms)
	out.Nons = moved(g.Nons, n.nons)
	out.Start = n.nons[g.Start]
	for i := range out.Prods {
		n.turnProd(&out.Prods[i])
	}
	for _, l := range out.Levels {
		n.turnLevel(l.Terms)
	}
	return out
}

func (n numbering) turnProd(p *api.Prod) {
	p.Left = n.nons[p.Left]
	for i, s := range p.Right {
		p.Right[i] = n.symbol(s)
	}
	if p.Prec != noPrec {
		p.Prec = n.terms[p.Prec]
	}
}

func (n numbering) symbol(s api.Sym) api.Sym {
	if s.Kind == api.SymTerm {
		return api.Sym{Kind: s.Kind, N: n.terms[s.N]}
	}
	return api.Sym{Kind: s.Kind, N: n.nons[s.N]}
}

func (n numbering) turnLevel(terms []int) {
	for i, old := range terms {
		terms[i] = n.terms[old]
	}
	slices.Sort(terms)
}

// moved answers names such that each stands at its new number.
func moved(names []string, numbers []int) []string {
	out := make([]string, len(names))
	for i, name := range names {
		out[numbers[i]] = name
	}
	return out
}

// within answers whether each number of a list is the place of one.
func within(l []int) bool {
	return !slices.ContainsFunc(l, func(n int) bool { return n < 0 || n >= len(l) })
}

func hasTwice(l []int) bool {
	sorted := slices.Sorted(slices.Values(l))
	return !rises(sorted)
}

// clone answers g in memory of its own, each list apart.
func clone(g api.Grammar) api.Grammar {
	g.Terms = slices.Clone(g.Terms)
	g.Nons = slices.Clone(g.Nons)
	g.Prods = slices.Clone(g.Prods)
	for i, p := range g.Prods {
		g.Prods[i].Right = slices.Clone(p.Right)
	}
	g.Levels = slices.Clone(g.Levels)
	for i, l := range g.Levels {
		g.Levels[i].Terms = slices.Clone(l.Terms)
	}
	return g
}
