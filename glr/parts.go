package glr

import (
	"gantry/api"
	"gantry/grammar"
)

// parts is which parts of a text symbols and rests of productions give.
type parts struct {
	prods []api.Prod
	text  []api.Token
	rules [][]int      // productions, by nonterminals
	uses  [][]api.Core // by nonterminals: where they stand on right sides
	ends  [][]set      // by nonterminals and where a part begins: where may it end?
	rests [][][]set    // by productions, dots, and where a part begins: where may end what stands behind the dot?
	news  []news
}

// news is ends of a nonterminal that have just been found, and that productions do not know of.
type news struct {
	non  int
	ends set
}

func partsOf(g api.Grammar, w []api.Token) *parts {
	p := &parts{prods: g.Prods, text: w}
	for n := range g.Nons {
		p.rules = append(p.rules, grammar.Rules(g, n))
		p.uses = append(p.uses, grammar.Uses(g, non(n)))
		p.ends = append(p.ends, make([]set, len(w)+1))
	}
	for _, prod := range g.Prods {
		rests := make([][]set, len(prod.Right)+1)
		for dot := range rests {
			rests[dot] = make([]set, len(w)+1)
		}
		p.rests = append(p.rests, rests)
	}
	for from := len(w); from >= 0; from-- {
		p.find(from)
	}
	return p
}

// find finds where parts end that begin at a place, all later ones being known.
func (p *parts) find(from int) {
	for i, prod := range p.prods {
		p.add(i, len(prod.Right), from, setOf(from))
		for dot, s := range prod.Right {
			if p.reads(s, from) {
				p.add(i, dot, from, p.rests[i][dot+1][from+1])
			}
		}
	}
	for len(p.news) > 0 {
		last := p.news[len(p.news)-1]
		p.news = p.news[:len(p.news)-1]
		p.tell(last, from)
	}
}

// tell lets the productions know in which a nonterminal stands.
func (p *parts) tell(n news, from int) {
	for _, use := range p.uses[n.non] {
		var ends set
		for at := range n.ends.all {
			ends = ends.with(p.rests[use.Prod][use.Dot+1][at])
		}
		p.add(use.Prod, use.Dot, from, ends)
	}
}

// add puts in where a rest may end, and goes on to the left, over what may be nothing there: so it does not matter that a rest which begins at the same place grows once more.
func (p *parts) add(i, dot, from int, ends set) {
	prod := p.prods[i]
	for ; dot >= 0; dot-- {
		rest := &p.rests[i][dot][from]
		ends = ends.without(*rest)
		if ends.empty() {
			return
		}
		*rest = rest.with(ends)
		if dot > 0 && !p.endsOf(prod.Right[dot-1], from).has(from) {
			return
		}
	}
	known := &p.ends[prod.Left][from]
	if ends = ends.without(*known); !ends.empty() {
		*known = known.with(ends)
		p.news = append(p.news, news{prod.Left, ends})
	}
}

// endsOf is where a part that a symbol gives may end, if it begins at a place.
func (p *parts) endsOf(s api.Sym, from int) set {
	switch {
	case s.Kind == api.SymNon:
		return p.ends[s.N][from]
	case p.reads(s, from):
		return setOf(from + 1)
	}
	return set{}
}

// reads tells whether a symbol is the terminal that stands at a place.
func (p *parts) reads(s api.Sym, at int) bool {
	return s.Kind == api.SymTerm && at < len(p.text) && p.text[at].Kind == s.N
}

// whole tells whether a nonterminal gives the whole text.
func (p *parts) whole(n int) bool { return p.ends[n][0].has(len(p.text)) }
