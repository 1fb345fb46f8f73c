package glr

import "gantry/api"

// way is an alternative: whose it is, its kids, and how many trees the node has by it.
type way struct {
	node  int
	kids  []int
	lives bool // is there any?
	trees int
}

// counter counts the trees of nodes, up to a most, of any forest.
type counter struct {
	nodes []api.ForestNode
	most  int
	first []int // by nodes: the number of the first way; behind the last node: how many ways there are
	ways  []way
	uses  [][]int // by nodes: the ways in which it is a kid, as often as it is
	trees []int   // by nodes
}

func counterOf(nodes []api.ForestNode, most int) *counter {
	c := &counter{nodes: nodes, most: most, uses: make([][]int, len(nodes)), trees: make([]int, len(nodes))}
	for n, node := range nodes {
		c.first = append(c.first, len(c.ways))
		for _, alt := range node.Alts {
			for _, kid := range alt.Kids {
				if isNode(nodes, kid) {
					c.uses[kid] = append(c.uses[kid], len(c.ways))
				}
			}
			c.ways = append(c.ways, way{node: n, kids: alt.Kids})
		}
	}
	c.first = append(c.first, len(c.ways))
	c.findLiving()
	c.count()
	return c
}

// root is how many trees node 0 has.
func (c *counter) root() int {
	if len(c.nodes) == 0 {
		return 0
	}
	return c.trees[0]
}

// spread goes from kids to those whose kids they are. A leaf is settled at once; a way ends when as many of its kids are settled as are open; its node is settled if end says so. A kid that is no node's number is never settled.
func (c *counter) spread(open []int, end func(way int) bool) {
	var settled []int
	for n, node := range c.nodes {
		if isLeaf(node) {
			settled = append(settled, n)
		}
	}
	for w, left := range open {
		if left == 0 && end(w) {
			settled = append(settled, c.ways[w].node)
		}
	}
	for len(settled) > 0 {
		n := settled[len(settled)-1]
		settled = settled[:len(settled)-1]
		for _, w := range c.uses[n] {
			open[w]--
			if open[w] == 0 && end(w) {
				settled = append(settled, c.ways[w].node)
			}
		}
	}
}

// findLiving finds the ways of which there are trees.
func (c *counter) findLiving() {
	open := make([]int, len(c.ways))
	for w := range c.ways {
		open[w] = len(c.ways[w].kids)
	}
	has := make([]bool, len(c.nodes))
	c.spread(open, func(w int) bool {
		c.ways[w].lives = true
		n := c.ways[w].node
		fresh := !has[n]
		has[n] = true
		return fresh
	})
}

// count goes over the living ways alone. A node that is never settled hangs on itself, or on one that does: it has trees without end.
func (c *counter) count() {
	const never = -1
	open := make([]int, len(c.ways))
	left := make([]int, len(c.nodes))
	for w, way := range c.ways {
		open[w] = never
		if way.lives {
			open[w] = len(way.kids)
			left[way.node]++
		}
	}
	for n, node := range c.nodes {
		if isLeaf(node) {
			c.trees[n] = 1
		}
	}
	c.spread(open, func(w int) bool {
		n := c.ways[w].node
		c.ways[w].trees = c.product(c.ways[w].kids)
		c.trees[n] = c.sum(c.trees[n], c.ways[w].trees)
		left[n]--
		return left[n] == 0
	})
	for n := range c.nodes {
		if left[n] > 0 {
			c.trees[n] = c.most
		}
	}
}

// product is how many rows of trees some nodes have, each of which has one at least.
func (c *counter) product(kids []int) int {
	n := 1
	for _, kid := range kids {
		if n > c.most/c.trees[kid] {
			return c.most
		}
		n *= c.trees[kid]
	}
	return n
}

func (c *counter) sum(a, b int) int {
	if a > c.most-b {
		return c.most
	}
	return a + b
}

// isLeaf tells whether a node has one tree, its terminal's leaf.
func isLeaf(n api.ForestNode) bool { return n.Sym.Kind == api.SymTerm && len(n.Alts) == 0 }
