package example

import (
	"slices"

	"gantry/api"
)

// startProd is the number of start's own production.
const startProd = -1

// step is what an edge is known by: the state that it leaves, and its symbol.
type step struct {
	from int
	sym  api.Sym
}

// automaton is a grammar's one without lookaheads.
type automaton struct {
	grammar  api.Grammar
	targets  map[step]int
	incoming []api.Sym // by states: what all edges bear that lead there
	complete [][]int   // by states: the productions whose end stands there
}

func automatonOf(g api.Grammar, built api.Automaton) *automaton {
	a := &automaton{grammar: g, targets: make(map[step]int), incoming: make([]api.Sym, len(built.States))}
	for _, edge := range built.Edges {
		a.targets[step{edge.From, edge.Sym}] = edge.To
		a.incoming[edge.To] = edge.Sym
	}
	for _, state := range built.States {
		var complete []int
		for _, i := range state {
			if i.Dot == a.length(i.Prod) {
				complete = append(complete, i.Prod)
			}
		}
		a.complete = append(a.complete, complete)
	}
	return a
}

func (a *automaton) length(prod int) int {
	if prod == startProd {
		return 1
	}
	return len(a.grammar.Prods[prod].Right)
}

// target is where an edge leads to that there is.
func (a *automaton) target(from int, s api.Sym) int { return a.targets[step{from, s}] }

// terminalTo is the terminal over which an edge leads from one state to another, if there is one.
func (a *automaton) terminalTo(from, to int) (int, bool) {
	if to < 0 || to >= len(a.incoming) {
		return 0, false
	}
	s := a.incoming[to]
	found, leads := a.targets[step{from, s}]
	return s.N, leads && found == to && s.Kind == api.SymTerm
}

func (a *automaton) isComplete(state, prod int) bool { return slices.Contains(a.complete[state], prod) }

// stack is the states in which a parser is, from the bottom up, over the automaton that it goes by, and how many tokens it has shifted.
type stack struct {
	*automaton
	states  []int
	shifted int
}

func stackOver(a *automaton) *stack { return &stack{automaton: a, states: []int{0}} }

func (s *stack) top() int { return s.states[len(s.states)-1] }

func (s *stack) lay(x api.Sym) { s.states = append(s.states, s.target(s.top(), x)) }

func (s *stack) shift(kind int) {
	s.lay(term(kind))
	s.shifted++
}

func (s *stack) reduce(prod int) {
	p := s.grammar.Prods[prod]
	s.states = s.states[:len(s.states)-len(p.Right)]
	s.lay(non(p.Left))
}
