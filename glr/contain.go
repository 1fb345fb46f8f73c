package glr

import (
	"slices"

	"gantry/api"
)

// step is a tree that is being gone over, where it begins, and which of its kids is next.
type step struct {
	tree *api.Tree
	from int
	next int
}

// contains tells whether a tree of the grammar is one of node 0. It goes from the leaves up: a tree's symbol, and the leaves ahead of it and in it, tell its node, and that must have the kids' nodes as an alternative.
func (c *checker) contains(t *api.Tree) bool {
	read := 0      // leaves, up to here
	var done []int // nodes of trees that wait for those whose kids they are
	for way := []step{{tree: t}}; len(way) > 0; {
		last := &way[len(way)-1]
		if last.next < len(last.tree.Kids) {
			kid := &last.tree.Kids[last.next]
			last.next++
			way = append(way, step{tree: kid, from: read})
			continue
		}
		if last.tree.Prod == -1 {
			read++
		}
		first := len(done) - len(last.tree.Kids)
		n, found := c.find(last.tree, last.from, read, done[first:])
		if !found {
			return false
		}
		done = append(done[:first], n)
		way = way[:len(way)-1]
	}
	return done[0] == 0
}

// find is the node of a tree over part of the text, whose kids' nodes are known.
func (c *checker) find(t *api.Tree, from, to int, kids []int) (int, bool) {
	sym := term(t.Tok.Kind)
	if t.Prod != -1 {
		sym = non(c.grammar.Prods[t.Prod].Left)
	}
	n, found := c.numbers[part{sym, from, to}]
	if !found || t.Prod == -1 {
		return n, found
	}
	_, found = slices.BinarySearchFunc(c.nodes[n].Alts, api.ForestAlt{Prod: t.Prod, Kids: kids}, c.compare)
	return n, found
}
