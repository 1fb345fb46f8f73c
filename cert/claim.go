package cert

import (
	"slices"

	"gantry/api"
	"gantry/grammar"
	"gantry/items"
)

// claim is a certificate that is claimed to have the shape beside a table of so many rows.
type claim struct {
	grammar api.Grammar
	rows    int
	cert    api.Cert
}

// hasCounts tells whether there are as many lists as there must be; all else leans on it.
func (k claim) hasCounts() bool {
	byNons := []int{len(k.cert.Nullable), len(k.cert.First)}
	byRows := []int{len(k.cert.Items), len(k.cert.Incoming), len(k.cert.PastSyms), len(k.cert.PastStates)}
	return areAll(byNons, len(k.grammar.Nons)) && areAll(byRows, k.rows)
}

// hasState tells whether all that is claimed of a state may be.
func (k claim) hasState(state int) bool {
	if e, _ := items.Check(k.grammar, k.cert.Items[state]); e != api.OK {
		return false
	}
	incoming, past := k.cert.Incoming[state], k.cert.PastSyms[state]
	if state == 0 {
		return incoming == api.Sym{} && len(past)+len(k.cert.PastStates[0]) == 0
	}
	return grammar.In(k.grammar, incoming) && len(past) <= api.MaxRight && k.hasSyms(past) && k.hasPast(state)
}

func (k claim) hasSyms(l []api.Sym) bool {
	strange := func(s api.Sym) bool { return !grammar.In(k.grammar, s) }
	return !slices.ContainsFunc(l, strange)
}

// hasPast tells whether a state but 0 has a list of states for each past symbol, and for the place under the last of them.
func (k claim) hasPast(state int) bool {
	strange := func(l []int) bool { return !risesBelow(l, k.rows) }
	lists := k.cert.PastStates[state]
	return len(lists) == len(k.cert.PastSyms[state])+1 && !slices.ContainsFunc(lists, strange)
}

// mayBe tells whether the items of all states may be.
func mayBe(g api.Grammar, states [][]api.Item) bool {
	for _, state := range states {
		if e, _ := items.Check(g, state); e != api.OK {
			return false
		}
	}
	return true
}

func areAll(l []int, n int) bool {
	return !slices.ContainsFunc(l, func(other int) bool { return other != n })
}

// risesBelow tells whether numbers rise, from 0 on and below a bound.
func risesBelow(l []int, bound int) bool {
	least := 0
	for _, n := range l {
		if n < least || n >= bound {
			return false
		}
		least = n + 1
	}
	return true
}

// copies is the items of states in memory of their own.
func copies(states [][]api.Item) [][]api.Item {
	all := slices.Clone(states)
	for n, state := range all {
		all[n] = slices.Clone(state)
		for at, i := range all[n] {
			all[n][at].Look = slices.Clone(i.Look)
		}
	}
	return all
}
