package lrzero

import (
	"gantry/api"
	"gantry/grammar"
)

// startProd is the number of start's own production.
const startProd = -1

func firstKernel() []api.Core { return []api.Core{{Prod: startProd}} }

// closing is what closures of a grammar's items are made of. Productions are counted from start's own on, so that it has the place 0.
type closing struct {
	nons   int
	rights [][]api.Sym
	rules  [][]int // productions by nonterminals
	begins []int   // by productions: how many items stand ahead of its own, and at last how many there are
}

// closingOf asks a grammar that may be.
func closingOf(g api.Grammar) *closing {
	c := &closing{nons: len(g.Nons), begins: []int{0}}
	c.add([]api.Sym{{Kind: api.SymNon, N: g.Start}})
	for _, p := range g.Prods {
		c.add(p.Right)
	}
	for n := range g.Nons {
		c.rules = append(c.rules, grammar.Rules(g, n))
	}
	return c
}

func (c *closing) add(right []api.Sym) {
	c.rights = append(c.rights, right)
	c.begins = append(c.begins, c.begins[len(c.begins)-1]+len(right)+1)
}

// place is where an item stands among all that there are.
func (c *closing) place(i api.Core) int { return c.begins[i.Prod-startProd] + i.Dot }

// behind is the symbol behind the dot; false, if the dot stands at the end.
func (c *closing) behind(i api.Core) (api.Sym, bool) {
	right := c.rights[i.Prod-startProd]
	if i.Dot == len(right) {
		return api.Sym{}, false
	}
	return right[i.Dot], true
}

// closure grows by take, which knows what is in. A nonterminal brings its productions once, so take calls itself no deeper than there are nonterminals.
func (c *closing) closure(items []api.Core) []api.Core {
	in := make([]bool, c.begins[len(c.rights)])
	brought := make([]bool, c.nons)
	count := 0
	var take func(i api.Core)
	take = func(i api.Core) {
		at := c.place(i)
		if in[at] {
			return
		}
		in[at] = true
		count++
		s, more := c.behind(i)
		if !more || s.Kind != api.SymNon || brought[s.N] {
			return
		}
		brought[s.N] = true
		for _, p := range c.rules[s.N] {
			take(api.Core{Prod: p})
		}
	}
	for _, i := range items {
		take(i)
	}
	return c.list(in, count)
}

// list is the items that are in, rising.
func (c *closing) list(in []bool, count int) []api.Core {
	l := make([]api.Core, 0, count)
	for p := range c.rights {
		for dot, isIn := range in[c.begins[p]:c.begins[p+1]] {
			if isIn {
				l = append(l, api.Core{Prod: p + startProd, Dot: dot})
			}
		}
	}
	return l
}

// kernel is a state's items whose dot stands ahead of s, the dot moved behind it.
func (c *closing) kernel(state []api.Core, s api.Sym) []api.Core {
	var l []api.Core
	for _, i := range state {
		if behind, more := c.behind(i); more && behind == s {
			l = append(l, api.Core{Prod: i.Prod, Dot: i.Dot + 1})
		}
	}
	return l
}

// faultOf is what is wrong with a grammar, or with items of it.
func faultOf(g api.Grammar, items []api.Core) api.Errno {
	if e, _ := grammar.Check(g); e != api.OK {
		return e
	}
	for _, i := range items {
		if !isThere(g, i) {
			return api.ErrItem
		}
	}
	return api.OK
}

// isThere tells whether there is such a production, and such a dot in it.
func isThere(g api.Grammar, i api.Core) bool {
	if i.Prod < startProd || i.Prod >= len(g.Prods) {
		return false
	}
	length := 1
	if i.Prod != startProd {
		length = len(g.Prods[i.Prod].Right)
	}
	return i.Dot >= 0 && i.Dot <= length
}
