package trees

import (
	"slices"

	"gantry/api"
)

// step is a tree that is being gone over, and which of its kids is next.
type step struct {
	tree *api.Tree
	next int
}

// walkAround goes over the places of a tree: it enters each ahead of its kids, and leaves it behind them. It ends where enter says so.
func walkAround(t *api.Tree, enter func(*api.Tree) bool, leave func(*api.Tree)) {
	if !enter(t) {
		return
	}
	way := []step{{tree: t}}
	for len(way) > 0 {
		last := &way[len(way)-1]
		if last.next == len(last.tree.Kids) {
			leave(last.tree)
			way = way[:len(way)-1]
			continue
		}
		kid := &last.tree.Kids[last.next]
		last.next++
		if !enter(kid) {
			return
		}
		way = append(way, step{tree: kid})
	}
}

// walk goes over the places of a tree in preorder, as long as enter says so.
func walk(t *api.Tree, enter func(*api.Tree) bool) {
	walkAround(t, enter, func(*api.Tree) {})
}

func goOn(*api.Tree) bool { return true }

// copied is a tree that shares nothing, not even among its own places. Each place gets kids of its own ahead of the kids' own turn.
func copied(t api.Tree) api.Tree {
	walk(&t, func(at *api.Tree) bool {
		at.Kids = slices.Clone(at.Kids)
		return true
	})
	return t
}

// find is the tree in a place, or nil.
func find(t *api.Tree, place int) *api.Tree {
	var found *api.Tree
	number := 0
	walk(t, func(at *api.Tree) bool {
		if number == place {
			found = at
		}
		number++
		return found == nil
	})
	return found
}

func isLeaf(t *api.Tree) bool { return t.Prod == -1 }

// alike tells whether two trees are the same in all but what their kids are.
func alike(a, b *api.Tree) bool {
	return a.Prod == b.Prod && a.Tok == b.Tok && len(a.Kids) == len(b.Kids)
}

// pushKids puts the kids onto a stack, so that the first is taken first.
func pushKids(stack []*api.Tree, t *api.Tree) []*api.Tree {
	for i := range slices.Backward(t.Kids) {
		stack = append(stack, &t.Kids[i])
	}
	return stack
}
