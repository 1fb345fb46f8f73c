package validate_test

import (
	"slices"
	"strconv"

	"gantry/api"
	"gantry/table"
)

// how a run came out.
const (
	accepted = "accepted"
	refused  = "refused"
	stuck    = "stuck"
	endless  = "endless"
)

// outcome is what became of a run: of an endless one after as many steps as it was given.
type outcome struct {
	how     string
	tree    api.Tree
	steps   int
	pops    int
	shifted int
	left    int // entries over the bottom at the end
	highest int // the most that there were
}

type entry struct {
	state int
	sym   api.Sym
	tree  api.Tree
}

// runOf runs a table of shape over a text as chapter 19 says.
func runOf(g api.Grammar, y api.Table, w []api.Token, most int) outcome {
	var o outcome
	stack := []entry{{}}
	for {
		o.left = len(stack) - 1
		o.highest = max(o.highest, o.left)
		if o.steps == most {
			o.how = endless
			return o
		}
		o.steps++
		look := len(g.Terms)
		if o.shifted < len(w) {
			look = w[o.shifted].Kind
			if look < 0 || look >= len(g.Terms) {
				look = -1
			}
		}
		top := stack[len(stack)-1]
		switch a := table.Action(y, top.state, look); a.Kind {
		case api.ActError:
			o.how = refused
			return o
		case api.ActAccept:
			o.how, o.tree = accepted, top.tree
			if len(stack) != 2 || top.sym != non(g.Start) {
				o.how = stuck
			}
			return o
		case api.ActShift:
			if look == len(g.Terms) {
				o.how = stuck
				return o
			}
			stack = append(stack, entry{a.Arg, term(look), api.Tree{Prod: -1, Tok: w[o.shifted]}})
			o.shifted++
		case api.ActReduce:
			e, n, ok := reduced(g, y, stack, a.Arg)
			if !ok {
				o.how = stuck
				return o
			}
			o.pops += n
			stack = append(stack[:len(stack)-n], e)
		}
	}
}

// reduced is the entry that a reduction pushes, and how many it pops; false, if it is stuck.
func reduced(g api.Grammar, y api.Table, stack []entry, prod int) (entry, int, bool) {
	p := g.Prods[prod]
	n := len(p.Right)
	if n > len(stack)-1 {
		return entry{}, 0, false
	}
	t := api.Tree{Prod: prod}
	for at, e := range stack[len(stack)-n:] {
		if e.sym != p.Right[at] {
			return entry{}, 0, false
		}
		t.Kids = append(t.Kids, e.tree)
	}
	state := table.Goto(y, stack[len(stack)-n-1].state, p.Left)
	return entry{state, non(p.Left), t}, n, state >= 0
}

// textOf is a text of these kinds, each token with a payload of its own.
func textOf(kinds []int) []api.Token {
	var w []api.Token
	for at, k := range kinds {
		w = append(w, api.Token{Kind: k, Text: "at " + strconv.Itoa(at)})
	}
	return w
}

// eachText goes over all lists of at most so many of these kinds.
func eachText(kinds []int, most int, do func(w []int)) {
	level := [][]int{nil}
	for length := range most + 1 {
		var next [][]int
		for _, w := range level {
			do(w)
			if length < most {
				for _, k := range kinds {
					next = append(next, append(slices.Clone(w), k))
				}
			}
		}
		level = next
	}
}

// kindsOf are a grammar's terminals.
func kindsOf(g api.Grammar) []int {
	var l []int
	for n := range g.Terms {
		l = append(l, n)
	}
	return l
}

// bare is a tree without payloads.
func bare(t api.Tree) api.Tree {
	t.Tok.Text = ""
	kids := slices.Clone(t.Kids)
	for n := range kids {
		kids[n] = bare(kids[n])
	}
	t.Kids = kids
	return t
}
