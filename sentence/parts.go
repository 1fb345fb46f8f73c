package sentence

import "gantry/api"

// parts is which parts of a word symbols and rests of productions give.
type parts struct {
	prods []api.Prod
	word  []int
	ends  [][]set   // by nonterminals and where a part begins: where may it end?
	rests [][][]set // by productions, dots, and where a part begins: where may end what stands behind the dot?
}

func partsOf(g api.Grammar, word []int) *parts {
	p := &parts{prods: g.Prods, word: word}
	for range g.Nons {
		p.ends = append(p.ends, make([]set, len(word)+1))
	}
	for from := len(word); from >= 0; from-- {
		p.findEnds(from)
	}
	for _, prod := range g.Prods {
		p.rests = append(p.rests, p.restsOf(prod.Right))
	}
	return p
}

// findEnds finds where parts end that begin at a place, all later ones being known.
func (p *parts) findEnds(from int) {
	for changed := true; changed; {
		changed = false
		for _, prod := range p.prods {
			ends := &p.ends[prod.Left][from]
			more := ends.with(p.endsOfAll(prod.Right, from))
			if more != *ends {
				*ends = more
				changed = true
			}
		}
	}
}

func (p *parts) endsOfAll(right []api.Sym, from int) set {
	ends := setOf(from)
	for _, s := range right {
		var next set
		for at := range ends.all {
			next = next.with(p.endsOf(s, at))
		}
		ends = next
	}
	return ends
}

// endsOf is where a part that a symbol gives may end, if it begins at a place.
func (p *parts) endsOf(s api.Sym, from int) set {
	switch {
	case s.Kind == api.SymNon:
		return p.ends[s.N][from]
	case from < len(p.word) && p.word[from] == s.N:
		return setOf(from + 1)
	}
	return set{}
}

// restsOf goes over a right side from its end.
func (p *parts) restsOf(right []api.Sym) [][]set {
	rests := make([][]set, len(right)+1)
	for dot := len(right); dot >= 0; dot-- {
		rests[dot] = make([]set, len(p.word)+1)
		for from := range rests[dot] {
			if dot == len(right) {
				rests[dot][from] = setOf(from)
				continue
			}
			for at := range p.endsOf(right[dot], from).all {
				rests[dot][from] = rests[dot][from].with(rests[dot+1][at])
			}
		}
	}
	return rests
}
