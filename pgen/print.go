package pgen

import (
	"strconv"
	"strings"

	"gantry/api"
	"gantry/grammar"
	"gantry/symbols"
	"gantry/trees"
)

const (
	noState = -1
	ownProd = -1 // start's own production: its reduction is acceptance
)

// PrintReport answers a line for each conflict of a report, the undecided ones ahead.
func PrintReport(g api.Grammar, r api.Report) (string, api.Errno) {
	if e, _ := grammar.Check(g); e != api.OK {
		return "", e
	}
	if len(r.Decisions) != len(r.Decided) {
		return "", api.ErrArg
	}
	if !mayAllBe(g, r.Undecided) || !mayAllBe(g, r.Decided) {
		return "", api.ErrRange
	}
	p := printer{grammar: g}
	for _, c := range r.Undecided {
		p.conflict(c)
		p.text("\n")
	}
	for n, c := range r.Decided {
		p.conflict(c)
		p.decision(r.Decisions[n])
		p.text("\n")
	}
	return p.out.String(), api.OK
}

// PrintResult answers the tree of an accepted text, or where it was refused.
func PrintResult(g api.Grammar, r api.Result) (string, api.Errno) {
	if e, _ := grammar.Check(g); e != api.OK {
		return "", e
	}
	if !r.Accepted {
		return "refused at " + strconv.Itoa(r.At), api.OK
	}
	tree, e := trees.Print(g, r.Tree)
	if e != api.OK {
		return "", e
	}
	return "accepted " + tree, api.OK
}

// mayAllBe tells whether conflicts have no lookahead and no production that there is not.
func mayAllBe(g api.Grammar, l []api.Conflict) bool {
	for _, c := range l {
		if c.Look < 0 || c.Look > len(g.Terms) {
			return false
		}
		for _, prod := range c.Reduce {
			if prod < ownProd || prod >= len(g.Prods) {
				return false
			}
		}
	}
	return true
}

// printer writes what is told of conflicts, one piece behind the other.
type printer struct {
	grammar api.Grammar
	out     strings.Builder
}

func (p *printer) text(s string) { p.out.WriteString(s) }

// numbered writes a word, a blank and a number.
func (p *printer) numbered(word string, n int) {
	p.text(word)
	p.text(" ")
	p.text(strconv.Itoa(n))
}

func (p *printer) conflict(c api.Conflict) {
	name, _ := symbols.Spell(p.grammar.Terms, p.grammar.Nons, []api.Sym{{Kind: api.SymTerm, N: c.Look}})
	p.numbered("state", c.State)
	p.text(" under ")
	p.text(name)
	p.text(": ")
	divider := ""
	if c.Shift != noState {
		p.numbered("shift", c.Shift)
		divider = ", "
	}
	for _, prod := range c.Reduce {
		p.text(divider)
		p.reduction(prod)
		divider = ", "
	}
}

func (p *printer) reduction(prod int) {
	if prod == ownProd {
		p.text("accept")
		return
	}
	p.numbered("reduce", prod)
}

func (p *printer) decision(d api.Decision) {
	p.text(" -> ")
	switch d.Kind {
	case api.DecideShift:
		p.text("shift")
	case api.DecideReduce:
		p.numbered("reduce", d.Prod)
	case api.DecideError:
		p.text("error")
	default:
		p.text("none")
	}
}
