package canon

import (
	"slices"

	"gantry/api"
	"gantry/items"
)

// merging is an automaton whose states fall into classes: those of one core are one.
type merging struct {
	states  [][]api.Item
	fans    [][]api.Edge
	classes []int // by states
	firsts  []int // by classes: the first of its states
}

// mergingOf asks an automaton that may be. Classes have numbers as their first states come.
func mergingOf(a api.Automaton) *merging {
	m := &merging{states: a.States, fans: fansOf(len(a.States), a.Edges)}
	numbers := make(map[string]int)
	for n, state := range a.States {
		key := coreKeyOf(state)
		class, known := numbers[key]
		if !known {
			class = len(m.firsts)
			numbers[key] = class
			m.firsts = append(m.firsts, n)
		}
		m.classes = append(m.classes, class)
	}
	return m
}

// agree tells whether the states of each class have edges over the same symbols to the same classes.
func (m *merging) agree() bool {
	alike := func(a, b api.Edge) bool {
		return a.Sym == b.Sym && m.classes[a.To] == m.classes[b.To]
	}
	for n, class := range m.classes {
		if !slices.EqualFunc(m.fans[n], m.fans[m.firsts[class]], alike) {
			return false
		}
	}
	return true
}

// inOrder tells whether all states are met, each by its own number.
func (m *merging) inOrder() bool {
	list := met(m.fans)
	for at, n := range list {
		if at != n {
			return false
		}
	}
	return len(list) == len(m.fans)
}

// automaton is that of the classes. Where these agree and the states are in order it is in order, too: what a class's other states lead to has been met from its first one.
func (m *merging) automaton() api.Automaton {
	a := api.Automaton{States: make([][]api.Item, len(m.firsts))}
	for n, class := range m.classes {
		a.States[class] = items.Union(a.States[class], m.states[n])
	}
	for class, first := range m.firsts {
		for _, edge := range m.fans[first] {
			a.Edges = append(a.Edges, api.Edge{From: class, Sym: edge.Sym, To: m.classes[edge.To]})
		}
	}
	return a
}
