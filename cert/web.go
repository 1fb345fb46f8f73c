package cert

import (
	"gantry/api"
	"gantry/bits"
	"gantry/table"
)

// noState is told in place of a state where there is no goto.
const noState = -1

// web is a table's edges, and of each state the one symbol that they bear into it.
type web struct {
	edges    []api.Edge
	incoming []api.Sym
}

// edgesOf asks a table that has the shape.
func edgesOf(g api.Grammar, t api.Table) []api.Edge {
	var edges []api.Edge
	for from := range t.Rows {
		for n := range g.Terms { // not under the end marker
			if a := table.Action(t, from, n); a.Kind == api.ActShift {
				edges = append(edges, api.Edge{From: from, Sym: api.Sym{Kind: api.SymTerm, N: n}, To: a.Arg})
			}
		}
		for n := range g.Nons {
			if to := table.Goto(t, from, n); to != noState {
				edges = append(edges, api.Edge{From: from, Sym: api.Sym{Kind: api.SymNon, N: n}, To: to})
			}
		}
	}
	return edges
}

// shapedWeb is the web of a table of which nothing is known yet.
func shapedWeb(g api.Grammar, t api.Table) (*web, api.Errno, int) {
	if e, at := table.Shape(g, t); e != api.OK {
		return nil, e, at
	}
	return webOf(g, t)
}

// webOf asks a table that has the shape, and answers the lowest state whose symbol can't be told, if there is one.
func webOf(g api.Grammar, t api.Table) (*web, api.Errno, int) {
	w := &web{edges: edgesOf(g, t), incoming: make([]api.Sym, len(t.Rows))}
	lowest := len(t.Rows)
	for _, edge := range w.edges {
		known := w.incoming[edge.To]
		if edge.To == 0 || known != (api.Sym{}) && known != edge.Sym {
			lowest = min(lowest, edge.To)
		}
		w.incoming[edge.To] = edge.Sym
	}
	for state := 1; state < lowest; state++ {
		if w.incoming[state] == (api.Sym{}) {
			lowest = state
		}
	}
	if lowest < len(t.Rows) {
		return nil, api.ErrIncoming, lowest
	}
	return w, api.OK, 0
}

// pastSyms is what is left of each state's Below without its Incoming.
func (w *web) pastSyms() [][]api.Sym {
	lists := w.below()
	for state := 1; state < len(lists); state++ {
		lists[state] = lists[state][1:]
	}
	return lists
}

// below is each state's Below, its Incoming and all. What the ways tell is cut along the edges till it agrees: none of it can be longer, so what is left is the longest.
func (w *web) below() [][]api.Sym {
	lists := w.ways()
	settle(w.targets(), func(from, to int) bool {
		length := 1 + agreeing(lists[to][1:], lists[from])
		isCut := length < len(lists[to])
		lists[to] = lists[to][:length]
		return isCut
	})
	return lists
}

// ways is of each state the symbols along some way back, as far as to state 0 or as many as Below may have: each state but 0 has an edge that leads to it.
func (w *web) ways() [][]api.Sym {
	before := make([]int, len(w.incoming))
	for _, edge := range w.edges {
		before[edge.To] = edge.From
	}
	lists := make([][]api.Sym, len(w.incoming))
	for state := range lists {
		for at := state; at != 0 && len(lists[state]) <= api.MaxRight; at = before[at] {
			lists[state] = append(lists[state], w.incoming[at])
		}
	}
	return lists
}

// targets is the states to which the edges of each lead.
func (w *web) targets() [][]int {
	all := make([][]int, len(w.incoming))
	for _, edge := range w.edges {
		all[edge.From] = append(all[edge.From], edge.To)
	}
	return all
}

// agreeing is how many symbols two lists have in common from their beginnings on.
func agreeing(a, b []api.Sym) int {
	n := 0
	for n < len(a) && n < len(b) && a[n] == b[n] {
		n++
	}
	return n
}

// pastStates is the least lists beside these past symbols. The lists of all states at one depth stand side by side, the deeper ones behind them, so that one round does for all.
func (w *web) pastStates(syms [][]api.Sym) [][][]int {
	states := len(w.incoming)
	sets := make([]*bits.Set, (api.MaxRight+1)*states)
	links := make([][]int, len(sets))
	for state := 1; state < states; state++ {
		for depth := range len(syms[state]) + 1 {
			sets[depth*states+state], _ = bits.NewSet(states)
		}
	}
	for _, edge := range w.edges {
		sets[edge.To].Add(edge.From)
		for depth := range syms[edge.To] { // what the target has of depths, but the first one, the source has, too
			from := depth*states + edge.From
			links[from] = append(links[from], (depth+1)*states+edge.To)
		}
	}
	flow(sets, links)
	all := make([][][]int, states)
	for state := 1; state < states; state++ {
		for depth := range len(syms[state]) + 1 {
			all[state] = append(all[state], sets[depth*states+state].List())
		}
	}
	return all
}
