package trim

import (
	"slices"

	"gantry/api"
)

// symbolsOf is all symbols of a grammar, terminals ahead of nonterminals, each rising.
func symbolsOf(g api.Grammar) []api.Sym {
	var l []api.Sym
	for n := range g.Terms {
		l = append(l, term(n))
	}
	for n := range g.Nons {
		l = append(l, non(n))
	}
	return l
}

// marks is a set of a grammar's symbols.
type marks struct {
	terms []bool
	nons  []bool
}

func noMarks(g api.Grammar) marks {
	return marks{terms: make([]bool, len(g.Terms)), nons: make([]bool, len(g.Nons))}
}

func (m marks) like(s api.Sym) []bool {
	if s.Kind == api.SymTerm {
		return m.terms
	}
	return m.nons
}

func (m marks) has(s api.Sym) bool { return m.like(s)[s.N] }

// add tells whether the symbol is new.
func (m marks) add(s api.Sym) bool {
	old := m.has(s)
	m.like(s)[s.N] = true
	return !old
}

func (m marks) noTerms() bool { return !slices.Contains(m.terms, true) }

// numbers is the new number of each symbol that stays.
type numbers map[api.Sym]int

// numbered closes up the numbers of the marked symbols.
func numbered(g api.Grammar, m marks) numbers {
	n := make(numbers)
	next := make(map[api.SymKind]int)
	for _, s := range symbolsOf(g) {
		if m.has(s) {
			n[s] = next[s.Kind]
			next[s.Kind]++
		}
	}
	return n
}

func (n numbers) grammar(g api.Grammar, stays func(api.Prod) bool) api.Grammar {
	return api.Grammar{
		Terms:  n.names(g.Terms, term),
		Nons:   n.names(g.Nons, non),
		Start:  n[non(g.Start)],
		Prods:  n.prods(g.Prods, stays),
		Levels: n.levels(g.Levels),
	}
}

func (n numbers) names(names []string, symbol func(int) api.Sym) []string {
	var l []string
	for i, name := range names {
		if _, stays := n[symbol(i)]; stays {
			l = append(l, name)
		}
	}
	return l
}

func (n numbers) prods(prods []api.Prod, stays func(api.Prod) bool) []api.Prod {
	var l []api.Prod
	for _, p := range prods {
		if stays(p) {
			l = append(l, n.prod(p))
		}
	}
	return l
}

func (n numbers) prod(p api.Prod) api.Prod {
	out := api.Prod{Left: n[non(p.Left)], Prec: -1}
	for _, s := range p.Right {
		out.Right = append(out.Right, api.Sym{Kind: s.Kind, N: n[s]})
	}
	if prec, stays := n[term(p.Prec)]; stays {
		out.Prec = prec
	}
	return out
}

func (n numbers) levels(levels []api.Level) []api.Level {
	var l []api.Level
	for _, level := range levels {
		if terms := n.terms(level.Terms); len(terms) > 0 {
			l = append(l, api.Level{Assoc: level.Assoc, Terms: terms})
		}
	}
	return l
}

func (n numbers) terms(terms []int) []int {
	var l []int
	for _, old := range terms {
		if number, stays := n[term(old)]; stays {
			l = append(l, number)
		}
	}
	return l
}
