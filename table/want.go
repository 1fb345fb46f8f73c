package table

import (
	"slices"

	"gantry/api"
	"gantry/prec"
)

// wants is what a state wants under each lookahead, in the form of a conflict, be it two things, one or none.
func (s *source) wants(state int) []api.Conflict {
	wants := make([]api.Conflict, s.looks())
	for look := range wants {
		to := s.target(state, api.Sym{Kind: api.SymTerm, N: look}) // no edge is over the end marker
		wants[look] = api.Conflict{State: state, Look: look, Shift: to}
	}
	for _, i := range s.states[state] {
		if i.Dot < s.length(i.Prod) {
			continue
		}
		for _, look := range i.Look {
			wants[look].Reduce = append(wants[look].Reduce, i.Prod)
		}
	}
	for look, want := range wants { // the items of an automaton that no call made may stand in any order, and twice
		slices.Sort(want.Reduce)
		wants[look].Reduce = slices.Compact(want.Reduce)
	}
	return wants
}

// conflictsOf is those wants that are more than one.
func conflictsOf(wants []api.Conflict) []api.Conflict {
	var all []api.Conflict
	for _, want := range wants {
		count := len(want.Reduce)
		if want.Shift != noState {
			count++
		}
		if count > 1 {
			all = append(all, want)
		}
	}
	return all
}

// row does what a state wants, its conflicts taken for undecided.
func (s *source) row(state int, wants []api.Conflict) api.Row {
	row := api.Row{Default: noProd, Acts: make([]api.Action, len(wants)), Gotos: make([]int, len(s.grammar.Nons))}
	for look, want := range wants {
		row.Acts[look] = choice(want)
	}
	for n := range row.Gotos {
		row.Gotos[n] = s.target(state, api.Sym{Kind: api.SymNon, N: n})
	}
	return row
}

// choice is the shift, else acceptance, else the lowest production: acceptance has the lowest number of those that want to reduce.
func choice(want api.Conflict) api.Action {
	switch {
	case want.Shift != noState:
		return api.Action{Kind: api.ActShift, Arg: want.Shift}
	case len(want.Reduce) == 0:
		return api.Action{}
	case want.Reduce[0] == startProd:
		return api.Action{Kind: api.ActAccept}
	}
	return api.Action{Kind: api.ActReduce, Arg: want.Reduce[0]}
}

// settle lays what precedence decides into the table, and parts the conflicts that it does not decide from those that it does.
func settle(g api.Grammar, t api.Table, all []api.Conflict) (undecided, decided []api.Conflict) {
	decisions, _, _ := prec.ResolveAll(g, all) // what conflictsOf tells are conflicts that may be
	for at, d := range decisions {
		c := all[at]
		if d.Kind == api.DecideNone {
			undecided = append(undecided, c)
			continue
		}
		decided = append(decided, c)
		t.Rows[c.State].Acts[c.Look] = verdict(c, d)
	}
	return undecided, decided
}

// verdict is what is done of a conflict that is decided.
func verdict(c api.Conflict, d api.Decision) api.Action {
	switch d.Kind {
	case api.DecideShift:
		return api.Action{Kind: api.ActShift, Arg: c.Shift}
	case api.DecideReduce:
		return api.Action{Kind: api.ActReduce, Arg: d.Prod}
	}
	return api.Action{}
}
