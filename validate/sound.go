package validate

import (
	"slices"

	"gantry/api"
	"gantry/bits"
	"gantry/cert"
	"gantry/table"
)

// checkEdges asks that what is claimed to lie below a state does so on every stack: if it does below the state that an edge leaves, it does below the one to which that leads.
func (c *checker) checkEdges() (api.Errno, int) {
	edges, _ := cert.Edges(c.grammar, c.table)
	past := c.pastSets()
	for _, edge := range edges {
		if edge.To == 0 || c.cert.Incoming[edge.To] != edge.Sym {
			return api.ErrIncoming, edge.From
		}
		if !begins(cert.Below(c.cert, edge.From), c.cert.PastSyms[edge.To]) {
			return api.ErrPast, edge.From
		}
		nearest, deeper := past[edge.To][0], past[edge.To][1:]
		if !nearest.Has(edge.From) || !slices.EqualFunc(past[edge.From][:len(deeper)], deeper, (*bits.Set).Within) {
			return api.ErrPast, edge.From
		}
	}
	return api.OK, 0
}

// pastSets is the lists of PastStates as sets, since a list is asked once for each edge.
func (c *checker) pastSets() [][]*bits.Set {
	all := make([][]*bits.Set, len(c.cert.PastStates))
	for state, lists := range c.cert.PastStates {
		for _, l := range lists {
			all[state] = append(all[state], setOf(len(c.table.Rows), l))
		}
	}
	return all
}

func setOf(size int, l []int) *bits.Set {
	s, _ := bits.NewSet(size)
	for _, n := range l {
		s.Add(n)
	}
	return s
}

// begins tells whether the second list is a beginning of the first.
func begins(l, beginning []api.Sym) bool {
	return len(beginning) <= len(l) && slices.Equal(l[:len(beginning)], beginning)
}

// checkStates asks of each state that it finds on the stack what it takes off, and that something is done with what it makes of that.
func (c *checker) checkStates() (api.Errno, int) {
	for state := range c.table.Rows {
		for _, prod := range c.reductions(state) {
			if e := c.checkReduction(state, c.grammar.Prods[prod]); e != api.OK {
				return e, state
			}
		}
		if !c.acceptsWell(state) {
			return api.ErrAccept, state
		}
	}
	return api.OK, 0
}

// reductions is the productions that a state reduces, rising.
func (c *checker) reductions(state int) []int {
	var prods []int
	for look := range c.end() + 1 {
		if a := c.action(state, look); a.Kind == api.ActReduce {
			prods = append(prods, a.Arg)
		}
	}
	slices.Sort(prods)
	return slices.Compact(prods)
}

func (c *checker) checkReduction(state int, p api.Prod) api.Errno {
	right := slices.Clone(p.Right)
	slices.Reverse(right)
	if !begins(cert.Below(c.cert, state), right) {
		return api.ErrReduce
	}
	for _, top := range c.uncovered(state, len(right)) {
		if table.Goto(c.table, top, p.Left) == noState {
			return api.ErrGoto
		}
	}
	return api.OK
}

// uncovered is the states that may come to the top, if so many symbols that lie below a state, itself the first, are taken off.
func (c *checker) uncovered(state, symbols int) []int {
	if symbols == 0 {
		return []int{state}
	}
	return c.cert.PastStates[state][symbols-1]
}

// acceptsWell tells whether a state accepts only where a text has come to the start, alone on the stack, and to its end.
func (c *checker) acceptsWell(state int) bool {
	for look := range c.end() + 1 {
		if c.action(state, look).Kind != api.ActAccept {
			continue
		}
		if look != c.end() || c.cert.Incoming[state] != c.startSym() || !c.standsOnBottom(state) {
			return false
		}
	}
	return true
}

// standsOnBottom tells of a state but 0 whether nothing but state 0 may stand right below it.
func (c *checker) standsOnBottom(state int) bool {
	above := func(n int) bool { return n != 0 }
	return !slices.ContainsFunc(c.cert.PastStates[state][0], above)
}
