package lookahead

import (
	"slices"

	"gantry/api"
	"gantry/first"
	"gantry/grammar"
	"gantry/lrzero"
)

// step is what an edge is known by: the state that it leaves, and its symbol.
type step struct {
	from int
	sym  api.Sym
}

// builder has what the relations of one grammar are made of.
type builder struct {
	grammar     api.Grammar
	automaton   api.Automaton
	transitions []api.Edge
	fans        [][]api.Edge // the edges that leave each state
	targets     map[step]int // where each edge leads to
	numbers     map[step]int // of the transitions
	rules       [][]int      // productions by nonterminals
	nullable    []bool
}

// builderFor is the builder of a grammar.
func builderFor(g api.Grammar) (*builder, api.Errno) {
	a, e := lrzero.Build(g)
	if e != api.OK {
		return nil, e
	}
	return builderOf(g, a)
}

// builderOver is the builder of a grammar, if a is its automaton.
func builderOver(g api.Grammar, a api.Automaton) (*builder, api.Errno) {
	own, e := lrzero.Build(g)
	if e != api.OK {
		return nil, e
	}
	if !same(a, own) {
		return nil, api.ErrArg
	}
	return builderOf(g, own)
}

// builderOf asks a grammar that may be, and its automaton, which the builder may keep and change.
func builderOf(g api.Grammar, a api.Automaton) (*builder, api.Errno) {
	transitions := Transitions(a)
	if len(transitions) > api.MaxBits {
		return nil, api.ErrMany
	}
	b := &builder{grammar: g, automaton: a, transitions: transitions, targets: make(map[step]int), numbers: make(map[step]int)}
	b.fans = make([][]api.Edge, len(a.States))
	for _, edge := range a.Edges {
		b.fans[edge.From] = append(b.fans[edge.From], edge)
		b.targets[step{edge.From, edge.Sym}] = edge.To
	}
	for x, t := range transitions {
		b.numbers[step{t.From, t.Sym}] = x
	}
	for n := range g.Nons {
		b.rules = append(b.rules, grammar.Rules(g, n))
	}
	b.nullable, _ = first.Nullable(g)
	return b, api.OK
}

// same tells whether an automaton is the grammar's own one, whose items have no lookaheads.
func same(a, own api.Automaton) bool {
	alike := func(x, y api.Item) bool {
		return x.Prod == y.Prod && x.Dot == y.Dot && len(x.Look) == len(y.Look)
	}
	return slices.Equal(a.Edges, own.Edges) && slices.EqualFunc(a.States, own.States, func(x, y []api.Item) bool {
		return slices.EqualFunc(x, y, alike)
	})
}

// eachWay tells of each transition, rising, and each production of its nonterminal the states through which the right side leads, from the state on that the transition leaves. A state that a transition leaves has the beginnings of all productions of its nonterminal, so no edge is missing on the way.
func (b *builder) eachWay(tell func(transition, prod int, way []int)) {
	for x, t := range b.transitions {
		for _, prod := range b.rules[t.Sym.N] {
			tell(x, prod, b.way(t.From, b.grammar.Prods[prod].Right))
		}
	}
}

// way is the states through which symbols lead, the one from which they do first.
func (b *builder) way(from int, right []api.Sym) []int {
	states := make([]int, 0, len(right)+1)
	states = append(states, from)
	for at, s := range right {
		states = append(states, b.targets[step{states[at], s}])
	}
	return states
}
