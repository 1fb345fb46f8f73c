package lrzero

import (
	"cmp"
	"slices"

	"gantry/api"
	"gantry/symbols"
)

func isState(a api.Automaton, n int) bool { return n >= 0 && n < len(a.States) }

func compareEdges(a, b api.Edge) int {
	return cmp.Or(cmp.Compare(a.From, b.From), symbols.Compare(a.Sym, b.Sym))
}

// inOrder is the edges by rising From, then symbol; of several with the same the first stays ahead. Build's edges are so already, so most lists need not be copied.
func inOrder(edges []api.Edge) []api.Edge {
	if slices.IsSortedFunc(edges, compareEdges) {
		return edges
	}
	edges = slices.Clone(edges)
	slices.SortStableFunc(edges, compareEdges)
	return edges
}

// target is where the first edge from a state over s leads to, of edges in order.
func target(edges []api.Edge, from int, s api.Sym) (int, bool) {
	at, found := slices.BinarySearchFunc(edges, api.Edge{From: from, Sym: s}, compareEdges)
	if !found {
		return 0, false
	}
	return edges[at].To, true
}

// The marks of states that no edge led to yet, and of state 0, where the search begins.
const (
	notMet = -1
	begin  = -2
)

// search goes over an automaton from state 0 on, nearer states first, and of those that are equally near that first whose way is the least.
type search struct {
	automaton api.Automaton
	edges     []api.Edge // in order
	came      []int      // by states: the place of the edge over which it was first met, or a mark
	met       []int      // states, as they were met
}

// searchOf asks an automaton with a state.
func searchOf(a api.Automaton) *search {
	s := &search{automaton: a, edges: inOrder(a.Edges), came: slices.Repeat([]int{notMet}, len(a.States)), met: []int{0}}
	s.came[0] = begin
	return s
}

// way is the symbols over which a state is met first.
func (s *search) way(state int) ([]api.Sym, bool) {
	for at := 0; at < len(s.met) && s.came[state] == notMet; at++ {
		s.meet(s.met[at])
	}
	if s.came[state] == notMet {
		return nil, false
	}
	var way []api.Sym
	for at := s.came[state]; at != begin; at = s.came[s.edges[at].From] {
		way = append(way, s.edges[at].Sym)
	}
	slices.Reverse(way)
	return way, true
}

// meet meets the states to which the edges of one lead. An edge behind another one of the same symbol does not count.
func (s *search) meet(from int) {
	at, _ := slices.BinarySearchFunc(s.edges, from, func(e api.Edge, from int) int { return cmp.Compare(e.From, from) })
	for first := at; at < len(s.edges) && s.edges[at].From == from; at++ {
		to := s.edges[at].To
		if at > first && s.edges[at-1].Sym == s.edges[at].Sym || !isState(s.automaton, to) || s.came[to] != notMet {
			continue
		}
		s.came[to] = at
		s.met = append(s.met, to)
	}
}
