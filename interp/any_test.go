package interp_test

import (
	"math/rand"
	"slices"
	"testing"

	"gantry/api"
	"gantry/canon"
	"gantry/cert"
	"gantry/notation"
	"gantry/table"
	"gantry/trim"
	"gantry/validate"
)

func pick[T any](r *rand.Rand, l []T) T { return l[r.Intn(len(l))] }

// anyGrammar has at most so many of each, and no production twice.
func anyGrammar(r *rand.Rand, terms, nons, prods, right int) api.Grammar {
	g := grammarOf(1+r.Intn(terms), 1+r.Intn(nons), 0)
	g.Start = r.Intn(len(g.Nons))
	for range 1 + r.Intn(prods) {
		p := prod(r.Intn(len(g.Nons)))
		for range r.Intn(right + 1) {
			p.Right = append(p.Right, pick(r, symbolsOf(g)))
		}
		if !slices.ContainsFunc(g.Prods, func(q api.Prod) bool { return q.Left == p.Left && slices.Equal(q.Right, p.Right) }) {
			g.Prods = append(g.Prods, p)
		}
	}
	return g
}

// anyWell is a well-formed grammar with at most so many of each.
func anyWell(r *rand.Rand, terms, nons, prods, right int) api.Grammar {
	for {
		if g, e := trim.Wells(anyGrammar(r, terms, nons, prods, right)); e == api.OK {
			return g
		}
	}
}

// eachSmall goes over every well-formed grammar of at most two terminals, two nonterminals and three short productions, the first of which is the start's.
func eachSmall(do func(api.Grammar)) {
	for terms := 1; terms <= 2; terms++ {
		for nons := 1; nons <= 2; nons++ {
			var all []api.Prod
			for left := range nons {
				all = append(all, prod(left))
				for _, a := range symbolsOf(grammarOf(terms, nons, 0)) {
					all = append(all, prod(left, a))
					for _, b := range symbolsOf(grammarOf(terms, nons, 0)) {
						all = append(all, prod(left, a, b))
					}
				}
			}
			tell := func(l ...api.Prod) {
				if g := grammarOf(terms, nons, 0, l...); isWell(g) {
					do(g)
				}
			}
			for i := range all {
				tell(all[i])
				for j := range i {
					tell(all[i], all[j])
					for k := range j {
						tell(all[i], all[j], all[k])
					}
				}
			}
		}
	}
}

// taken is a Valid of an automaton with lookaheads, nil if there is none.
func taken(g api.Grammar, a api.Automaton, defaults bool) *validate.Valid {
	y, _, _, e := table.Build(g, a)
	must(y, e)
	if defaults {
		y = must(table.Defaults(g, y))
	}
	v, _, _ := validate.Validate(g, api.Bundle{Table: y, Cert: must(cert.Make(g, a, y))})
	return v
}

// merged is the Valid of LALR(1), nil if there is none.
func merged(g api.Grammar, defaults bool) *validate.Valid {
	a, e := canon.Merged(g)
	if e != api.OK {
		return nil
	}
	return taken(g, a, defaults)
}

func validOf(t testing.TB, text string) *validate.Valid {
	t.Helper()
	g, e, at := notation.Parse(text)
	if e != api.OK {
		t.Fatal(text, e, at)
	}
	v := merged(g, true)
	if v == nil {
		t.Fatal("it is not taken:", text)
	}
	return v
}

// anyAction is one that has the shape; most are not right.
func anyAction(r *rand.Rand, g api.Grammar, rows int) api.Action {
	return pick(r, acts(fault, accept, to(r.Intn(rows)), by(r.Intn(len(g.Prods))), by(r.Intn(len(g.Prods)))))
}

// more changes something in a table that may be let be: an action where there is none, a goto, a row that looks where one did not, a new row behind a shift.
func more(r *rand.Rand, g api.Grammar, y *api.Table) {
	row := &y.Rows[r.Intn(len(y.Rows))]
	look, at := r.Intn(len(g.Terms)+1), r.Intn(len(g.Nons))
	switch r.Intn(4) {
	case 0:
		if row.Gotos[at] == -1 {
			row.Gotos[at] = r.Intn(len(y.Rows))
		}
	case 1:
		if row.Default != -1 {
			row.Acts = slices.Repeat(acts(by(row.Default)), len(row.Acts))
			row.Default = -1
		}
	case 2:
		if row.Default == -1 && row.Acts[look] == fault {
			row.Acts[look] = anyAction(r, g, len(y.Rows))
		}
	case 3:
		if row.Default == -1 && row.Acts[look] == fault && look < len(g.Terms) {
			row.Acts[look] = to(len(y.Rows))
			y.Rows = append(y.Rows, looks(make([]api.Action, len(g.Terms)+1), slices.Repeat([]int{-1}, len(g.Nons))...))
		}
	}
}

// anyTaken is a Valid of Knuth's automaton or of the merged one, with more in its table, wherever the checker lets it be; nil, if there is none.
func anyTaken(r *rand.Rand, g api.Grammar, most int) *validate.Valid {
	a, e := canon.Canonical(g)
	if r.Intn(3) > 0 {
		a, e = canon.Merged(g)
	}
	if e != api.OK || len(a.States) > most {
		return nil
	}
	v := taken(g, a, r.Intn(2) == 0)
	if v == nil {
		return nil
	}
	for range 3 * r.Intn(8) {
		y := v.Table()
		more(r, g, &y)
		states := append(slices.Clone(a.States), make([][]api.Item, len(y.Rows)-len(a.States))...)
		c, e := cert.Make(g, api.Automaton{States: states}, y)
		if e != api.OK {
			continue
		}
		if other, e, _ := validate.Validate(g, api.Bundle{Table: y, Cert: c}); e == api.OK {
			v = other
		}
	}
	return v
}

// anyTable is a table of so many rows that has the shape, and no more.
func anyTable(r *rand.Rand, g api.Grammar, n int) api.Table {
	var y api.Table
	for range n {
		row := blind(r.Intn(len(g.Prods)), len(g.Terms)+1)
		for range g.Nons {
			row.Gotos = append(row.Gotos, max(-1, r.Intn(4*n+1)/4-1+r.Intn(2)))
		}
		for at, to := range row.Gotos {
			row.Gotos[at] = min(to, n-1)
		}
		if r.Intn(4) > 0 {
			row.Default = -1
			for look := range row.Acts {
				row.Acts[look] = anyAction(r, g, n)
			}
		}
		y.Rows = append(y.Rows, row)
	}
	return y
}
