package glr

import (
	"slices"
	"strconv"
	"strings"

	"gantry/api"
)

// allThere tells whether the tokens of all terminals' nodes are there in a text.
func allThere(nodes []api.ForestNode, w []api.Token) bool {
	return !slices.ContainsFunc(nodes, func(n api.ForestNode) bool {
		return n.Sym.Kind == api.SymTerm && (n.To > len(w) || w[n.From].Kind != n.Sym.N)
	})
}

// lister tells the trees of a forest, of which there are no more than its counter counts. So many have all nodes of these trees, too: what is capped is not asked.
type lister struct {
	*counter
	text []api.Token
	upTo []int // by ways: how many trees the node has by it and the ways ahead
}

func listerOf(c *counter, w []api.Token) *lister {
	l := &lister{counter: c, text: w, upTo: make([]int, len(c.ways))}
	for n := range c.nodes {
		sum := 0
		for i := c.first[n]; i < c.first[n+1]; i++ {
			sum += c.ways[i].trees
			l.upTo[i] = sum
		}
	}
	return l
}

// all is the trees of node 0 in their order.
func (l *lister) all() []api.Tree {
	var list []api.Tree
	for ahead := range l.root() {
		list = append(list, l.tree(ahead))
	}
	return list
}

// pick is a tree of a node, and the place where it is to stand: that which has so many ahead of it.
type pick struct {
	place *api.Tree
	node  int
	ahead int
}

// tree is the one of node 0 that has so many ahead of it.
func (l *lister) tree(ahead int) api.Tree {
	var whole api.Tree
	for stack := []pick{{&whole, 0, ahead}}; len(stack) > 0; {
		last := stack[len(stack)-1]
		stack = stack[:len(stack)-1]
		node := l.nodes[last.node]
		if isLeaf(node) {
			*last.place = api.Tree{Prod: -1, Tok: l.text[node.From]}
			continue
		}
		way, ahead := l.way(last)
		last.place.Prod = node.Alts[way-l.first[last.node]].Prod
		stack = l.pushKids(stack, last.place, way, ahead)
	}
	return whole
}

// way is the one by which a node has a tree, and how many of the trees ahead are by it, too.
func (l *lister) way(p pick) (int, int) {
	from := l.first[p.node]
	i, _ := slices.BinarySearch(l.upTo[from:l.first[p.node+1]], p.ahead+1)
	return from + i, p.ahead - l.upTo[from+i] + l.ways[from+i].trees
}

// pushKids makes room for a tree's kids. The last one changes with each tree.
func (l *lister) pushKids(stack []pick, t *api.Tree, way, ahead int) []pick {
	kids := l.ways[way].kids
	if len(kids) == 0 {
		return stack
	}
	t.Kids = make([]api.Tree, len(kids))
	for i, kid := range slices.Backward(kids) {
		stack = append(stack, pick{&t.Kids[i], kid, ahead % l.trees[kid]})
		ahead /= l.trees[kid]
	}
	return stack
}

// printed is the text of a forest that may be.
func printed(g api.Grammar, nodes []api.ForestNode) string {
	var text strings.Builder
	for n, node := range nodes {
		name := g.Terms
		if node.Sym.Kind == api.SymNon {
			name = g.Nons
		}
		text.WriteString(strconv.Itoa(n) + " " + name[node.Sym.N])
		writeAll(&text, []int{node.From, node.To})
		for _, alt := range node.Alts {
			text.WriteString(" | " + strconv.Itoa(alt.Prod))
			writeAll(&text, alt.Kids)
		}
		text.WriteString("\n")
	}
	return text.String()
}

// writeAll writes numbers, a blank ahead of each.
func writeAll(text *strings.Builder, l []int) {
	for _, n := range l {
		text.WriteString(" " + strconv.Itoa(n))
	}
}
