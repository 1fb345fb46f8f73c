package canon

import (
	"cmp"
	"slices"

	"gantry/api"
	"gantry/grammar"
	"gantry/symbols"
)

// none is told in place of a state where there is no edge.
const none = -1

func isState(a api.Automaton, n int) bool { return n >= 0 && n < len(a.States) }

// edgeFault is what is wrong with the edge at a place of an automaton.
func edgeFault(g api.Grammar, a api.Automaton, at int) api.Errno {
	edge := a.Edges[at]
	switch {
	case !isState(a, edge.From) || !isState(a, edge.To):
		return api.ErrRange
	case !grammar.In(g, edge.Sym):
		return api.ErrSymbol
	case at > 0 && compareEdges(a.Edges[at-1], edge) >= 0:
		return api.ErrOrder
	}
	return api.OK
}

func compareEdges(a, b api.Edge) int {
	return cmp.Or(cmp.Compare(a.From, b.From), symbols.Compare(a.Sym, b.Sym))
}

// inOrder is the edges by rising From, then symbol; of several with the same the first stays ahead. Those of most automata are so already, and are not copied.
func inOrder(edges []api.Edge) []api.Edge {
	if slices.IsSortedFunc(edges, compareEdges) {
		return edges
	}
	edges = slices.Clone(edges)
	slices.SortStableFunc(edges, compareEdges)
	return edges
}

// rise tells of edges in order whether no two leave one state over one symbol.
func rise(edges []api.Edge) bool {
	for at := 1; at < len(edges); at++ {
		if compareEdges(edges[at-1], edges[at]) == 0 {
			return false
		}
	}
	return true
}

// target is where the first edge from a state over s leads to, of edges in order.
func target(edges []api.Edge, from int, s api.Sym) int {
	at, found := slices.BinarySearchFunc(edges, api.Edge{From: from, Sym: s}, compareEdges)
	if !found {
		return none
	}
	return edges[at].To
}

// fansOf is the edges that leave each of so many states, of edges in order.
func fansOf(states int, edges []api.Edge) [][]api.Edge {
	fans := make([][]api.Edge, states)
	for at := 0; at < len(edges); {
		from, begin := edges[at].From, at
		for at < len(edges) && edges[at].From == from {
			at++
		}
		fans[from] = edges[begin:at]
	}
	return fans
}

// met is the states that are reached from state 0, as they are first met.
func met(fans [][]api.Edge) []int {
	known := make([]bool, len(fans))
	known[0] = true
	list := []int{0}
	for at := 0; at < len(list); at++ { // it grows at its end
		for _, edge := range fans[list[at]] {
			if !known[edge.To] {
				known[edge.To] = true
				list = append(list, edge.To)
			}
		}
	}
	return list
}

// renumbered is the automaton of some of the states, in the order of a list that has with each state those to which its edges lead.
func renumbered(states [][]api.Item, fans [][]api.Edge, list []int) api.Automaton {
	numbers := make([]int, len(states))
	for n, was := range list {
		numbers[was] = n
	}
	a := api.Automaton{States: make([][]api.Item, 0, len(list))}
	for n, was := range list {
		a.States = append(a.States, copies(states[was]))
		for _, edge := range fans[was] {
			a.Edges = append(a.Edges, api.Edge{From: n, Sym: edge.Sym, To: numbers[edge.To]})
		}
	}
	return a
}

// copies is items in memory of their own.
func copies(l []api.Item) []api.Item {
	l = slices.Clone(l)
	for at := range l {
		l[at].Look = slices.Clone(l[at].Look)
	}
	return l
}
