package interp

import "gantry/api"

// watch finds out that a run never ends, so that Run answers, however many steps it is given. A table that was taken has no need of it.
//
// Two things may go on for ever while no token comes. The stack grows: if reductions have laid more entries that lie there still than there are states, two of these have one state, and what led from the one to the other, which asked for nothing below, leads on from there again. Or the stack comes back: what a reduction lays over one stack hangs on its nonterminal alone, so if it has laid more there than there are nonterminals, the whole stack was the same twice.
type watch struct {
	states int
	nons   int
	low    int   // the least height at which a reduction laid an entry since the lookahead came
	laid   []int // of each height from low up: how many entries were laid there since those below it were
}

func watchOf(g api.Grammar, t api.Table) watch {
	return watch{states: len(t.Rows), nons: len(g.Nons)}
}

// neverEnds is asked ahead of each step.
func (w *watch) neverEnds(r *run) bool {
	if r.stand == waits {
		w.low, w.laid = r.top.height+1, w.laid[:0]
		return false
	}
	if r.top.height < w.low {
		w.low, w.laid = r.top.height, w.laid[:0]
	}
	at := r.top.height - w.low
	if at == len(w.laid) {
		w.laid = append(w.laid, 0)
	}
	w.laid = w.laid[:at+1]
	w.laid[at]++
	return len(w.laid) > w.states || w.laid[at] > w.nons
}
