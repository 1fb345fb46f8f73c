package prec

import (
	"slices"

	"gantry/api"
)

const (
	noShift = -1 // the Shift of a conflict of reductions alone
	accept  = -1 // start's own production, among those that want to reduce
)

// checkConflict answers the first fault of a conflict that is claimed of a grammar that may be.
func checkConflict(g api.Grammar, c api.Conflict) api.Errno {
	switch {
	case !inRange(g, c):
		return api.ErrRange
	case !rises(c.Reduce):
		return api.ErrOrder
	case !isConflict(g, c):
		return api.ErrArg
	}
	return api.OK
}

func inRange(g api.Grammar, c api.Conflict) bool {
	strange := func(prod int) bool { return prod != accept && !isProd(g, prod) }
	return c.Look >= 0 && c.Look <= len(g.Terms) && !slices.ContainsFunc(c.Reduce, strange) && c.Shift >= noShift
}

func rises(l []int) bool {
	for at := 1; at < len(l); at++ {
		if l[at-1] >= l[at] {
			return false
		}
	}
	return true
}

// isConflict tells whether there are two things or more to do, and none of them is a shift of the end marker.
func isConflict(g api.Grammar, c api.Conflict) bool {
	if c.Shift == noShift {
		return len(c.Reduce) >= 2
	}
	return len(c.Reduce) >= 1 && c.Look < len(g.Terms)
}
