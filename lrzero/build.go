package lrzero

import (
	"gantry/api"
	"gantry/symbols"
)

// building is an automaton in the making.
type building struct {
	*closing
	grammar api.Grammar
	states  [][]api.Core // a list that grows at its end while it is gone through
	numbers map[string]int
	edges   []api.Edge
}

func buildingOf(g api.Grammar) *building {
	return &building{closing: closingOf(g), grammar: g, numbers: make(map[string]int)}
}

// run goes through the states till no new one comes, and tells whether there are not too many.
func (b *building) run() bool {
	b.number(firstKernel())
	for from := 0; from < len(b.states); from++ {
		for n, kernel := range b.kernels(b.states[from]) {
			if len(kernel) == 0 {
				continue
			}
			to, fits := b.number(kernel)
			if !fits {
				return false
			}
			s, _ := symbols.Sparse(len(b.grammar.Terms), len(b.grammar.Nons), n)
			b.edges = append(b.edges, api.Edge{From: from, Sym: s, To: to})
		}
	}
	return true
}

// kernels are those of all gotos of a state, by the dense numbers of their symbols, which rise as the edges must.
func (b *building) kernels(state []api.Core) [][]api.Core {
	terms := len(b.grammar.Terms)
	all := make([][]api.Core, terms+1+b.nons)
	for _, i := range state {
		if s, more := b.behind(i); more {
			n, _ := symbols.Dense(terms, s)
			all[n] = append(all[n], api.Core{Prod: i.Prod, Dot: i.Dot + 1})
		}
	}
	return all
}

// number is the number of the state that a kernel's closure is, the next one, if it is new; false, if there is none left. Two states are the same just if their kernels are: what a closure brings has its dot at the beginning, and no goto's kernel has.
func (b *building) number(kernel []api.Core) (int, bool) {
	key := keyOf(kernel)
	if n, known := b.numbers[key]; known {
		return n, true
	}
	if len(b.states) == api.MaxStates {
		return 0, false
	}
	n := len(b.states)
	b.numbers[key] = n
	b.states = append(b.states, b.closure(kernel))
	return n, true
}

// keyOf is a text that no other kernel has: of each item its production, in two bytes, and its dot.
func keyOf(kernel []api.Core) string {
	key := make([]byte, 0, 3*len(kernel))
	for _, i := range kernel {
		p := i.Prod - startProd
		key = append(key, byte(p>>8), byte(p), byte(i.Dot))
	}
	return string(key)
}

func (b *building) automaton() api.Automaton {
	a := api.Automaton{Edges: b.edges}
	for _, state := range b.states {
		l := make([]api.Item, 0, len(state))
		for _, i := range state {
			l = append(l, api.Item{Prod: i.Prod, Dot: i.Dot})
		}
		a.States = append(a.States, l)
	}
	return a
}
