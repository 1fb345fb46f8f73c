package canon

import (
	"gantry/api"
	"gantry/items"
	"gantry/symbols"
)

// building is Knuth's automaton in the making.
type building struct {
	grammar api.Grammar
	states  [][]api.Item   // a list that grows at its end while it is gone through
	numbers map[string]int // of the states, by texts of their kernels
	edges   []api.Edge
}

func buildingOf(g api.Grammar) *building {
	return &building{grammar: g, numbers: make(map[string]int)}
}

// run goes through the states till no new one comes, and tells whether there are not too many. As it goes by number and along symbols that rise, the automaton is in order.
func (b *building) run() bool {
	start, _ := items.Start(b.grammar)
	b.number(start)
	for from := 0; from < len(b.states); from++ {
		for n, kernel := range b.kernels(b.states[from]) {
			if len(kernel) == 0 {
				continue
			}
			to, fits := b.number(kernel)
			if !fits {
				return false
			}
			s, _ := symbols.Sparse(len(b.grammar.Terms), len(b.grammar.Nons), n)
			b.edges = append(b.edges, api.Edge{From: from, Sym: s, To: to})
		}
	}
	return true
}

// kernels is a state's gotos by all symbols, by their dense numbers. One walk over the items does for all symbols; asking items.Goto for each would check grammar and items as often. The lookaheads are still the state's own lists.
func (b *building) kernels(state []api.Item) [][]api.Item {
	terms := len(b.grammar.Terms)
	all := make([][]api.Item, terms+1+len(b.grammar.Nons))
	for _, i := range state {
		right := rightOf(b.grammar, i.Prod)
		if i.Dot == len(right) {
			continue
		}
		n, _ := symbols.Dense(terms, right[i.Dot])
		all[n] = append(all[n], api.Item{Prod: i.Prod, Dot: i.Dot + 1, Look: i.Look})
	}
	return all
}

// number is the number of the state that a kernel's closure is, the next one, if it is new; false, if there is none left. Two states have the same items just if their kernels have: a closure brings items with the dot at the beginning, and of these a kernel has but start's own.
func (b *building) number(kernel []api.Item) (int, bool) {
	key := keyOf(kernel)
	if n, known := b.numbers[key]; known {
		return n, true
	}
	n := len(b.states)
	if n == api.MaxStates {
		return 0, false
	}
	state, _ := items.Closure(b.grammar, kernel)
	b.states = append(b.states, state)
	b.numbers[key] = n
	return n, true
}
