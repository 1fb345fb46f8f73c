package validate

import (
	"gantry/api"
	"gantry/bits"
	"gantry/cert"
)

// checkLoops asks that no state is reached from itself over symbols for which no token need come: there a run could push for ever.
func (c *checker) checkLoops() (api.Errno, int) {
	lowest := len(c.table.Rows)
	hollow := c.hollowEdges()
	for _, edge := range hollow {
		if edge.A == edge.B {
			lowest = min(lowest, edge.A)
		}
	}
	classes, _ := bits.Components(len(c.table.Rows), hollow)
	for _, class := range classes {
		if len(class) > 1 {
			lowest = min(lowest, class[0])
		}
	}
	if lowest < len(c.table.Rows) {
		return api.ErrLoop, lowest
	}
	return api.OK, 0
}

// hollowEdges is the edges over nonterminals that are claimed to be nullable.
func (c *checker) hollowEdges() []api.Pair {
	edges, _ := cert.Edges(c.grammar, c.table)
	var all []api.Pair
	for _, edge := range edges {
		if edge.Sym.Kind == api.SymNon && c.cert.Nullable[edge.Sym.N] {
			all = append(all, api.Pair{A: edge.From, B: edge.To})
		}
	}
	return all
}
