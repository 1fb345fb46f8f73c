package canon

import (
	"slices"

	"gantry/api"
)

// choices is what may be done in a state, by lookaheads.
type choices struct {
	shifts  []int   // where the terminal's edge leads to
	reduces [][]int // the productions of complete items
}

func choicesOf(g api.Grammar, state []api.Item, fan []api.Edge) choices {
	looks := len(g.Terms) + 1
	c := choices{shifts: slices.Repeat([]int{none}, looks), reduces: make([][]int, looks)}
	for _, edge := range fan {
		if edge.Sym.Kind == api.SymTerm {
			c.shifts[edge.Sym.N] = edge.To
		}
	}
	for _, i := range state {
		if i.Dot < len(rightOf(g, i.Prod)) {
			continue
		}
		for _, look := range i.Look {
			c.reduces[look] = append(c.reduces[look], i.Prod)
		}
	}
	return c
}

// conflicts is those of the choices that are more than one. Productions rise, since a state's items do.
func (c choices) conflicts(state int) []api.Conflict {
	var all []api.Conflict
	for look, shift := range c.shifts {
		count := len(c.reduces[look])
		if shift != none {
			count++
		}
		if count > 1 {
			all = append(all, api.Conflict{State: state, Look: look, Shift: shift, Reduce: c.reduces[look]})
		}
	}
	return all
}
