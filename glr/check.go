package glr

import (
	"cmp"
	"slices"

	"gantry/api"
	"gantry/grammar"
)

// checker holds a forest against a grammar, node by node, and writes down where nodes stand.
type checker struct {
	grammar api.Grammar
	nodes   []api.ForestNode
	numbers map[part]int
}

// check is what Check answers, and the checker that has been over the whole forest.
func check(g api.Grammar, f api.Forest) (*checker, api.Errno, int) {
	if e, _ := grammar.Check(g); e != api.OK {
		return nil, e, 0
	}
	c := &checker{grammar: g, nodes: f.Nodes, numbers: make(map[part]int)}
	for n := range f.Nodes {
		if !c.mayBe(n) {
			return nil, api.ErrForest, n
		}
	}
	if len(f.Nodes) > 0 && !c.begins() || !inOrder(f.Nodes) {
		return nil, api.ErrForest, len(f.Nodes)
	}
	return c, api.OK, len(f.Nodes)
}

// mayBe tells whether a node may be, those ahead being known.
func (c *checker) mayBe(n int) bool {
	node := c.nodes[n]
	if node.From < 0 || node.To < node.From || !grammar.In(c.grammar, node.Sym) || !c.isFilled(node) {
		return false
	}
	if _, twice := c.numbers[partOf(node)]; twice {
		return false
	}
	c.numbers[partOf(node)] = n
	return true
}

// isFilled tells whether a node has the alternatives that its symbol asks for.
func (c *checker) isFilled(node api.ForestNode) bool {
	if node.Sym.Kind == api.SymTerm {
		return node.To == node.From+1 && len(node.Alts) == 0
	}
	for i, alt := range node.Alts {
		if !c.fits(node, alt) || i > 0 && c.compare(node.Alts[i-1], alt) >= 0 {
			return false
		}
	}
	return len(node.Alts) > 0
}

// fits tells whether an alternative is a production of a node's over nodes that go on from one another.
func (c *checker) fits(node api.ForestNode, alt api.ForestAlt) bool {
	if alt.Prod < 0 || alt.Prod >= len(c.grammar.Prods) {
		return false
	}
	prod := c.grammar.Prods[alt.Prod]
	if prod.Left != node.Sym.N || len(prod.Right) != len(alt.Kids) {
		return false
	}
	at := node.From
	for i, n := range alt.Kids {
		if !isNode(c.nodes, n) {
			return false
		}
		kid := c.nodes[n]
		if kid.Sym != prod.Right[i] || kid.From != at {
			return false
		}
		at = kid.To
	}
	return at == node.To
}

// compare is the order of alternatives that fit.
func (c *checker) compare(a, b api.ForestAlt) int {
	byEnd := func(m, n int) int { return cmp.Compare(c.nodes[m].To, c.nodes[n].To) }
	return cmp.Or(cmp.Compare(a.Prod, b.Prod), slices.CompareFunc(a.Kids, b.Kids, byEnd))
}

// begins tells whether node 0 is start's, from the text's beginning on.
func (c *checker) begins() bool {
	root := c.nodes[0]
	return root.Sym == non(c.grammar.Start) && root.From == 0
}

// inOrder tells whether nodes have their numbers as they are first met.
func inOrder(nodes []api.ForestNode) bool {
	met := min(1, len(nodes))
	for n := 0; n < met; n++ {
		for _, alt := range nodes[n].Alts {
			for _, kid := range alt.Kids {
				if kid > met {
					return false
				}
				met = max(met, kid+1)
			}
		}
	}
	return met == len(nodes)
}

func isNode(nodes []api.ForestNode, n int) bool { return n >= 0 && n < len(nodes) }
