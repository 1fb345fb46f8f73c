package items

import (
	"gantry/api"
	"gantry/bits"
	"gantry/first"
	"gantry/grammar"
)

// closing is a closure in the making.
type closing struct {
	gathering
	grammar  api.Grammar
	nullable []bool
	first    []*bits.Set
	rules    [][]int     // productions by nonterminals
	brought  []*bits.Set // by nonterminals: the lookaheads that all its productions have been given; nil, if they are not in yet
	todo     []api.Core  // what came in, or grew, and has not brought anything since
}

// closingOf asks a grammar that may be, so that neither call refuses.
func closingOf(g api.Grammar) *closing {
	c := &closing{gathering: gatheringOf(g), grammar: g, brought: make([]*bits.Set, len(g.Nons))}
	c.nullable, _ = first.Nullable(g)
	lists, _ := first.First(g)
	for n := range g.Nons {
		c.first = append(c.first, c.setOf(lists[n]))
		c.rules = append(c.rules, grammar.Rules(g, n))
	}
	return c
}

// closure works off from its end what is still to be closed. A core comes back only when it has grown, so that has an end.
func closure(g api.Grammar, l []api.Item) []api.Item {
	c := closingOf(g)
	for _, i := range l {
		c.take(coreOf(i), c.setOf(i.Look))
	}
	for len(c.todo) > 0 {
		last := len(c.todo) - 1
		core := c.todo[last]
		c.todo = c.todo[:last]
		c.bring(core)
	}
	return c.list()
}

func (c *closing) take(core api.Core, look *bits.Set) {
	if c.put(core, look) {
		c.todo = append(c.todo, core)
	}
}

// bring takes in all productions of the nonterminal behind the dot.
func (c *closing) bring(core api.Core) {
	rest := restOf(c.grammar, core)
	if len(rest) == 0 || rest[0].Kind != api.SymNon {
		return
	}
	look := c.begin(rest[1:], c.looks[core])
	if !c.isNews(rest[0].N, look) {
		return
	}
	for _, p := range c.rules[rest[0].N] {
		c.take(api.Core{Prod: p}, look)
	}
}

// isNews tells whether a nonterminal's productions have not been given all of look yet. Most items bring what others brought, so that asking here spares going over the productions.
func (c *closing) isNews(n int, look *bits.Set) bool {
	if c.brought[n] == nil {
		c.brought[n] = look.Copy()
		return true
	}
	return c.brought[n].Union(look)
}

// begin is what the symbols, and then one of look, begin with.
func (c *closing) begin(l []api.Sym, look *bits.Set) *bits.Set {
	all := c.setOf(nil)
	for _, s := range l {
		if s.Kind == api.SymTerm {
			all.Add(s.N)
			return all
		}
		all.Union(c.first[s.N])
		if !c.nullable[s.N] {
			return all
		}
	}
	all.Union(look)
	return all
}
