package table

import (
	"slices"

	"gantry/api"
	"gantry/grammar"
)

const (
	startProd = -1 // start's own production: its reduction is acceptance
	noState   = -1 // where there is no edge
	noProd    = -1 // the Default of a row that looks
)

// step is what an edge is known by: the state that it leaves, and its symbol.
type step struct {
	from int
	sym  api.Sym
}

// source is the automaton of which a table is made.
type source struct {
	grammar api.Grammar
	states  [][]api.Item
	targets map[step]int // where each edge leads to
}

// sourceOf answers the first fault of an automaton, if it has one.
func sourceOf(g api.Grammar, a api.Automaton) (*source, api.Errno) {
	if e, _ := grammar.Check(g); e != api.OK {
		return nil, e
	}
	if !mayCount(len(a.States)) {
		return nil, api.ErrStates
	}
	s := &source{grammar: g, states: a.States, targets: make(map[step]int)}
	for _, state := range a.States {
		if !s.hasItems(state) {
			return nil, api.ErrItem
		}
	}
	for _, edge := range a.Edges {
		if !s.hasEdge(edge) {
			return nil, api.ErrSymbol
		}
	}
	for _, edge := range a.Edges {
		at := step{edge.From, edge.Sym}
		if _, known := s.targets[at]; known {
			return nil, api.ErrTwice
		}
		s.targets[at] = edge.To
	}
	return s, api.OK
}

// hasItems tells whether there are such items and lookaheads, in whatever order.
func (s *source) hasItems(state []api.Item) bool {
	strange := func(look int) bool { return !isBelow(look, s.looks()) }
	for _, i := range state {
		if i.Prod != startProd && !isBelow(i.Prod, len(s.grammar.Prods)) {
			return false
		}
		if i.Dot < 0 || i.Dot > s.length(i.Prod) || slices.ContainsFunc(i.Look, strange) {
			return false
		}
	}
	return true
}

func (s *source) hasEdge(edge api.Edge) bool {
	states := len(s.states)
	return isBelow(edge.From, states) && isBelow(edge.To, states) && grammar.In(s.grammar, edge.Sym)
}

// looks is how many lookaheads there are: the terminals, and the end marker.
func (s *source) looks() int { return len(s.grammar.Terms) + 1 }

// length is that of the right side of a production that there is.
func (s *source) length(prod int) int {
	if prod == startProd {
		return 1
	}
	return len(s.grammar.Prods[prod].Right)
}

// target is where the edge from a state over a symbol leads to.
func (s *source) target(from int, sym api.Sym) int {
	if to, known := s.targets[step{from, sym}]; known {
		return to
	}
	return noState
}
