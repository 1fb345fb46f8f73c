package example

import (
	"slices"

	"gantry/api"
)

// teller makes the moves that build a tree, and tells them.
type teller struct {
	*stack
	moves []Move
}

// movesOf asks a tree of the grammar whose root is start: all edges that it goes over are there.
func movesOf(a *automaton, t *api.Tree) []Move {
	made := teller{stack: stackOver(a)}
	eachBehindKids(t, made.build)
	made.tell(api.ActAccept, 0)
	return made.moves
}

func (t *teller) build(at *api.Tree) {
	if isLeaf(at) {
		kind := at.Tok.Kind
		t.tell(api.ActShift, t.target(t.top(), term(kind)))
		t.shift(kind)
		return
	}
	t.tell(api.ActReduce, at.Prod)
	t.reduce(at.Prod)
}

func (t *teller) tell(kind api.ActKind, arg int) {
	t.moves = append(t.moves, Move{State: t.top(), At: t.shifted, Act: api.Action{Kind: kind, Arg: arg}})
}

func isLeaf(t *api.Tree) bool { return t.Prod == -1 }

// level is a tree that is being gone over, and which of its kids is next.
type level struct {
	tree *api.Tree
	next int
}

// eachBehindKids goes over the places of a tree, each behind its kids.
func eachBehindKids(t *api.Tree, do func(*api.Tree)) {
	for way := []level{{tree: t}}; len(way) > 0; {
		last := &way[len(way)-1]
		if last.next == len(last.tree.Kids) {
			do(last.tree)
			way = way[:len(way)-1]
			continue
		}
		last.next++
		way = append(way, level{tree: &last.tree.Kids[last.next-1]})
	}
}

// follower makes moves that are told, over tokens, as far as they may be made.
type follower struct {
	*stack
	toks     []api.Token
	trees    []api.Tree // by the entries over the bottom
	accepted bool
}

// follow makes a move. What a state has always fits the entries: they are a way to it.
func (f *follower) follow(m Move) api.Errno {
	if f.accepted || m.State != f.top() || m.At != f.shifted {
		return api.ErrStep
	}
	switch m.Act.Kind {
	case api.ActShift:
		return f.shiftTo(m.Act.Arg)
	case api.ActReduce:
		return f.reduceBy(m.Act.Arg)
	case api.ActAccept:
		return f.accept(m.Act.Arg)
	}
	return api.ErrStep
}

func (f *follower) shiftTo(state int) api.Errno {
	kind, has := f.terminalTo(f.top(), state)
	if !has {
		return api.ErrStep
	}
	if f.shifted == len(f.toks) || f.toks[f.shifted].Kind != kind {
		return api.ErrLeaf
	}
	f.trees = append(f.trees, api.Tree{Prod: -1, Tok: f.toks[f.shifted]})
	f.shift(kind)
	return api.OK
}

func (f *follower) reduceBy(prod int) api.Errno {
	if prod == startProd || !f.isComplete(f.top(), prod) {
		return api.ErrStep
	}
	first := len(f.trees) - f.length(prod)
	node := api.Tree{Prod: prod}
	if first < len(f.trees) {
		node.Kids = slices.Clone(f.trees[first:])
	}
	f.trees = append(f.trees[:first], node)
	f.reduce(prod)
	return api.OK
}

func (f *follower) accept(arg int) api.Errno {
	if arg != 0 || !f.isComplete(f.top(), startProd) {
		return api.ErrStep
	}
	f.accepted = true
	return api.OK
}
