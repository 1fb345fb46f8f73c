package glr

import "gantry/api"

// part is a symbol over a part of a text.
type part struct {
	sym      api.Sym
	from, to int
}

func partOf(n api.ForestNode) part { return part{n.Sym, n.From, n.To} }

// packer makes a forest: a list of nodes that grows while it is gone over, and a map by which they are found again.
type packer struct {
	*parts
	numbers map[part]int
	nodes   []api.ForestNode
	alts    int // of all nodes together
}

// pack is the nodes of a nonterminal's forest of the whole text.
func pack(p *parts, n int) ([]api.ForestNode, api.Errno) {
	if !p.whole(n) {
		return nil, api.OK
	}
	k := &packer{parts: p, numbers: make(map[part]int)}
	k.number(part{sym: non(n), to: len(p.text)})
	for i := 0; i < len(k.nodes); i++ {
		if !k.fill(i) {
			return nil, api.ErrMany
		}
	}
	return k.nodes, api.OK
}

// number is that of a part's node. One that is met for the first time becomes the last node.
func (k *packer) number(p part) int {
	n, met := k.numbers[p]
	if !met {
		n = len(k.nodes)
		k.numbers[p] = n
		k.nodes = append(k.nodes, api.ForestNode{Sym: p.sym, From: p.from, To: p.to})
	}
	return n
}

// fill gives a node its alternatives. It tells whether there may be so many.
func (k *packer) fill(n int) bool {
	p := partOf(k.nodes[n])
	if p.sym.Kind == api.SymTerm {
		return true
	}
	var alts []api.ForestAlt
	for _, prod := range k.rules[p.sym.N] {
		few := k.eachWay(prod, p.from, p.to, func(ends []int) bool {
			k.alts++
			if k.alts > api.MaxAlts {
				return false
			}
			alts = append(alts, api.ForestAlt{Prod: prod, Kids: k.kids(prod, p.from, ends)})
			return true
		})
		if !few {
			return false
		}
	}
	k.nodes[n].Alts = alts
	return true
}

// kids is the nodes of a production's symbols, one behind the other, that end so.
func (k *packer) kids(prod, from int, ends []int) []int {
	var l []int
	for i, end := range ends {
		l = append(l, k.number(part{k.prods[prod].Right[i], from, end}))
		from = end
	}
	return l
}

// eachWay hands out the ways to lay a production over a part of the text, as the places at which its symbols end, in order, till give says enough. It tells whether all were handed out. No place is tried from which there is no way to the end: so what it does is in keeping with what it hands out.
func (p *parts) eachWay(prod, from, to int, give func(ends []int) bool) bool {
	right, rests := p.prods[prod].Right, p.rests[prod]
	if !rests[0][from].has(to) {
		return true
	}
	ends := make([]int, len(right))
	var place func(dot, at int) bool
	place = func(dot, at int) bool {
		if dot == len(right) {
			return give(ends)
		}
		for end := range p.endsOf(right[dot], at).all {
			if !rests[dot+1][end].has(to) {
				continue
			}
			ends[dot] = end
			if !place(dot+1, end) {
				return false
			}
		}
		return true
	}
	return place(0, from)
}
