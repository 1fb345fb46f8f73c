package interp

import (
	"slices"

	"gantry/api"
	"gantry/table"
)

// noLook is the lookahead of a token whose Kind is no terminal's: no row has an action under it. Its Kind itself may be the end marker's number.
const noLook = -1

// stand is how a run stands.
type stand int

const (
	waits stand = iota // for a lookahead: there is none till the next token, or the end, comes
	goes               // under the lookahead that came
	accepted
	refused
	stuck
)

// entry is one of the stack, with all that lies below it. It is never changed, so that runs may share it.
type entry struct {
	state  int
	sym    api.Sym
	tree   api.Tree
	below  *entry
	height int // over the bottom, which has 0
}

// run is how far a text has come by a table of shape. A copy of it is another run at the same place.
type run struct {
	grammar api.Grammar
	table   api.Table
	top     *entry
	stand   stand
	look    int
	token   api.Token // that which look is of; zero at the end
	shifted int
	steps   int
	pops    int
}

func runOf(g api.Grammar, t api.Table) run {
	return run{grammar: g, table: t, top: &entry{}}
}

func (r *run) isOver() bool { return r.stand != waits && r.stand != goes }

// end is the end marker's number, the greatest of lookaheads.
func (r *run) end() int { return len(r.grammar.Terms) }

func (r *run) come(look int, t api.Token) { r.stand, r.look, r.token = goes, look, t }

func (r *run) comeToken(t api.Token) {
	look := t.Kind
	if look < 0 || look >= r.end() {
		look = noLook
	}
	r.come(look, t)
}

func (r *run) comeEnd() { r.come(r.end(), api.Token{}) }

// settle makes the steps under the lookahead that came.
func (r *run) settle() {
	for r.stand == goes {
		r.step()
	}
}

// stepOver makes a step of the run over a whole text.
func (r *run) stepOver(w []api.Token) {
	switch {
	case r.stand == goes:
	case r.shifted < len(w):
		r.comeToken(w[r.shifted])
	default:
		r.comeEnd()
	}
	r.step()
}

func (r *run) step() {
	steps := [...]func(*run, int){
		api.ActError:  (*run).refuse,
		api.ActShift:  (*run).shift,
		api.ActReduce: (*run).reduce,
		api.ActAccept: (*run).accept,
	}
	r.steps++
	a := table.Action(r.table, r.top.state, r.look)
	steps[a.Kind](r, a.Arg)
}

func (r *run) refuse(int) { r.stand = refused }

func (r *run) shift(state int) {
	if r.look == r.end() {
		r.stand = stuck
		return
	}
	r.shifted++
	r.stand = waits
	r.lay(state, api.Sym{Kind: api.SymTerm, N: r.look}, api.Tree{Prod: -1, Tok: r.token})
}

func (r *run) reduce(prod int) {
	p := r.grammar.Prods[prod]
	kids, ok := r.take(p.Right)
	if !ok {
		r.stand = stuck
		return
	}
	r.lay(table.Goto(r.table, r.top.state, p.Left), api.Sym{Kind: api.SymNon, N: p.Left}, api.Tree{Prod: prod, Kids: kids})
}

func (r *run) accept(int) {
	r.stand = stuck
	if r.top.height == 1 && r.top.sym == (api.Sym{Kind: api.SymNon, N: r.grammar.Start}) {
		r.stand = accepted
	}
}

// lay puts an entry on the stack; a state without a row, as where there is no goto, is where a run can't go on.
func (r *run) lay(state int, s api.Sym, t api.Tree) {
	if state < 0 || state >= len(r.table.Rows) {
		r.stand = stuck
		return
	}
	r.top = &entry{state: state, sym: s, tree: t, below: r.top, height: r.top.height + 1}
}

// take pops the entries of a right side, and answers their trees; false, if others lie there.
func (r *run) take(right []api.Sym) ([]api.Tree, bool) {
	if len(right) == 0 {
		return nil, true
	}
	if len(right) > r.top.height {
		return nil, false
	}
	kids := make([]api.Tree, len(right))
	for at, s := range slices.Backward(right) {
		if r.top.sym != s {
			return nil, false
		}
		kids[at] = r.top.tree
		r.top = r.top.below
		r.pops++
	}
	return kids, true
}

// result is what a run came to that is over. It shares the tree with the run.
func (r *run) result() (api.Result, api.Errno) {
	switch r.stand {
	case accepted:
		return api.Result{Accepted: true, Tree: r.top.tree, Steps: r.steps, Pops: r.pops}, api.OK
	case refused:
		return api.Result{At: r.shifted, Steps: r.steps, Pops: r.pops}, api.OK
	}
	return api.Result{}, api.ErrInternal
}
