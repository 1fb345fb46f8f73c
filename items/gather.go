package items

import (
	"slices"

	"gantry/api"
	"gantry/bits"
)

// gathering is lookaheads by cores: all that were put in for each, be they none.
type gathering struct {
	size  int // lookaheads are below it
	looks map[api.Core]*bits.Set
}

func gatheringOf(g api.Grammar) gathering {
	return gathering{size: len(g.Terms) + 1, looks: make(map[api.Core]*bits.Set)}
}

// setOf is a set of lookaheads; a grammar has so few terminals that it is never refused.
func (a gathering) setOf(look []int) *bits.Set {
	s, _ := bits.NewSet(a.size)
	for _, n := range look {
		s.Add(n)
	}
	return s
}

// put puts a core and lookaheads in, and tells whether any of that was out.
func (a gathering) put(c api.Core, look *bits.Set) bool {
	own, known := a.looks[c]
	if !known {
		a.looks[c] = look.Copy()
		return true
	}
	return own.Union(look)
}

// list is the items, in order.
func (a gathering) list() []api.Item {
	l := make([]api.Item, 0, len(a.looks))
	for c, look := range a.looks {
		l = append(l, api.Item{Prod: c.Prod, Dot: c.Dot, Look: look.List()})
	}
	slices.SortFunc(l, compareCores)
	return l
}
