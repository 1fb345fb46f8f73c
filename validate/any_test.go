package validate_test

import (
	"math"
	"math/rand"
	"slices"

	"gantry/api"
	"gantry/canon"
	"gantry/cert"
	"gantry/items"
	"gantry/table"
	"gantry/trim"
)

func pick[T any](r *rand.Rand, l []T) T { return l[r.Intn(len(l))] }

// anySyms are symbols of a grammar, in any order.
func anySyms(r *rand.Rand, g api.Grammar, most int) []api.Sym {
	var l []api.Sym
	for range r.Intn(most + 1) {
		l = append(l, pick(r, symbolsOf(g)))
	}
	return l
}

// anyGrammar has at most so many of each, and no production twice.
func anyGrammar(r *rand.Rand, terms, nons, prods, right int) api.Grammar {
	g := grammarOf(1+r.Intn(terms), 1+r.Intn(nons), 0)
	g.Start = r.Intn(len(g.Nons))
	for range 1 + r.Intn(prods) {
		p := prod(r.Intn(len(g.Nons)), anySyms(r, g, right)...)
		if !slices.ContainsFunc(g.Prods, func(q api.Prod) bool { return q.Left == p.Left && slices.Equal(q.Right, p.Right) }) {
			g.Prods = append(g.Prods, p)
		}
	}
	return g
}

// anyWell is a well-formed grammar with at most so many of each.
func anyWell(r *rand.Rand, terms, nons, prods, right int) api.Grammar {
	for {
		if g, e := trim.Wells(anyGrammar(r, terms, nons, prods, right)); e == api.OK {
			return g
		}
	}
}

// eachSmall goes over every well-formed grammar of at most two terminals, two nonterminals and three short productions, the first of which is the start's.
func eachSmall(do func(api.Grammar)) {
	for terms := 1; terms <= 2; terms++ {
		for nons := 1; nons <= 2; nons++ {
			var all []api.Prod
			for left := range nons {
				all = append(all, prod(left))
				for _, a := range symbolsOf(grammarOf(terms, nons, 0)) {
					all = append(all, prod(left, a))
					for _, b := range symbolsOf(grammarOf(terms, nons, 0)) {
						all = append(all, prod(left, a, b))
					}
				}
			}
			tell := func(l ...api.Prod) {
				if g := grammarOf(terms, nons, 0, l...); isWell(g) {
					do(g)
				}
			}
			for i := range all {
				tell(all[i])
				for j := range i {
					tell(all[i], all[j])
					for k := range j {
						tell(all[i], all[j], all[k])
					}
				}
			}
		}
	}
}

// built is the bundle of an automaton with lookaheads, conflicts or not.
func built(g api.Grammar, a api.Automaton, defaults bool) api.Bundle {
	y, _, _, e := table.Build(g, a)
	must(y, e)
	if defaults {
		y = must(table.Defaults(g, y))
	}
	return api.Bundle{Table: y, Cert: must(cert.Make(g, a, y))}
}

// merged is the bundle of LALR(1).
func merged(g api.Grammar, defaults bool) api.Bundle {
	return built(g, must(canon.Merged(g)), defaults)
}

// anyBundle is a grammar's, of Knuth's automaton or of the merged one; false, if these have too many states for a test.
func anyBundle(r *rand.Rand, g api.Grammar, most int) (api.Bundle, bool) {
	a, e := canon.Canonical(g)
	if r.Intn(3) > 0 {
		a, e = canon.Merged(g)
	}
	if e != api.OK || len(a.States) > most {
		return api.Bundle{}, false
	}
	return built(g, a, r.Intn(2) == 0), true
}

func deepItems(l [][]api.Item) [][]api.Item {
	l = slices.Clone(l)
	for n := range l {
		l[n] = slices.Clone(l[n])
		for i := range l[n] {
			l[n][i].Look = slices.Clone(l[n][i].Look)
		}
	}
	return l
}

func deepLists[T any](l [][]T) [][]T {
	l = slices.Clone(l)
	for n := range l {
		l[n] = slices.Clone(l[n])
	}
	return l
}

func deep(b api.Bundle) api.Bundle {
	b.Table.Rows = slices.Clone(b.Table.Rows)
	for n, row := range b.Table.Rows {
		b.Table.Rows[n].Acts, b.Table.Rows[n].Gotos = slices.Clone(row.Acts), slices.Clone(row.Gotos)
	}
	c := &b.Cert
	c.Nullable, c.First, c.Items, c.Incoming = slices.Clone(c.Nullable), deepLists(c.First), deepItems(c.Items), slices.Clone(c.Incoming)
	c.PastSyms, c.PastStates = deepLists(c.PastSyms), slices.Clone(c.PastStates)
	for n := range c.PastStates {
		c.PastStates[n] = deepLists(c.PastStates[n])
	}
	return b
}

// odd are numbers that are out of most ranges.
func odd(r *rand.Rand, size int) int {
	return pick(r, []int{-2, -1, 0, size, size + 1, math.MinInt, math.MaxInt})
}

// anyNumbers are at most so many numbers below a bound, rising.
func anyNumbers(r *rand.Rand, bound, most int) []int {
	var l []int
	for range r.Intn(most + 1) {
		l = append(l, r.Intn(bound))
	}
	return once(l)
}

func anyAction(r *rand.Rand, g api.Grammar, rows int) api.Action {
	return pick(r, acts(fault, accept, to(r.Intn(rows)), by(r.Intn(len(g.Prods))), by(r.Intn(len(g.Prods)))))
}

// open makes a row look that does not, and do the same.
func open(row *api.Row) {
	if row.Default != -1 {
		row.Acts = slices.Repeat(acts(by(row.Default)), len(row.Acts))
		row.Default = -1
	}
}

// turnTable changes something in a table's row; it has the shape still.
func turnTable(r *rand.Rand, g api.Grammar, y api.Table) {
	row := &y.Rows[r.Intn(len(y.Rows))]
	look := r.Intn(len(g.Terms) + 1)
	switch r.Intn(6) {
	case 0:
		open(row)
		row.Acts[look] = anyAction(r, g, len(y.Rows))
		if look == len(g.Terms) && row.Acts[look].Kind == api.ActShift {
			row.Acts[look] = fault
		}
	case 1:
		open(row)
		row.Acts[look] = fault
	case 2:
		open(row)
		row.Acts[look] = pick(r, row.Acts)
		if look == len(g.Terms) && row.Acts[look].Kind == api.ActShift {
			row.Acts[look] = accept
		}
	case 3:
		*row = blind(r.Intn(len(g.Prods)), len(g.Terms)+1, row.Gotos...)
	case 4:
		row.Gotos[r.Intn(len(g.Nons))] = r.Intn(len(y.Rows)+1) - 1
	case 5:
		row.Gotos[r.Intn(len(g.Nons))] = pick(r, pick(r, y.Rows).Gotos)
	}
}

// breakTable changes something in a table's row, that it has the shape no more, most often.
func breakTable(r *rand.Rand, g api.Grammar, y api.Table) {
	row := &y.Rows[r.Intn(len(y.Rows))]
	switch r.Intn(5) {
	case 0:
		row.Acts = row.Acts[:r.Intn(len(row.Acts))]
	case 1:
		row.Default = odd(r, len(g.Prods))
	case 2:
		row.Gotos[r.Intn(len(g.Nons))] = odd(r, len(y.Rows))
	case 3:
		row.Acts[r.Intn(len(row.Acts))] = api.Action{Kind: api.ActKind(r.Intn(6) - 1), Arg: odd(r, len(y.Rows))}
	case 4:
		open(row)
		row.Acts[len(g.Terms)] = to(r.Intn(len(y.Rows)))
	}
}

// turnItems changes something in the items of a state; they may be still.
func turnItems(r *rand.Rand, g api.Grammar, l *[]api.Item) {
	if len(*l) == 0 || r.Intn(4) == 0 {
		p := r.Intn(len(g.Prods)+1) - 1
		*l = items.Union(*l, list(item(p, r.Intn(len(rightOf(g, p))+1), anyNumbers(r, len(g.Terms)+1, 2)...)))
		return
	}
	at := r.Intn(len(*l))
	look := &(*l)[at].Look
	switch r.Intn(3) {
	case 0:
		*l = slices.Delete(*l, at, at+1)
	case 1:
		*look = once(append(*look, r.Intn(len(g.Terms)+1)))
	case 2:
		if len(*look) > 0 {
			n := r.Intn(len(*look))
			*look = slices.Delete(*look, n, n+1)
		}
	}
}

// turnPast changes something in what lies below a state; it has the shape still.
func turnPast(r *rand.Rand, g api.Grammar, c *api.Cert, state int) {
	if state == 0 {
		return
	}
	past, lists := &c.PastSyms[state], &c.PastStates[state]
	at := r.Intn(len(*lists))
	switch l := &(*lists)[at]; r.Intn(5) {
	case 0:
		*past, *lists = (*past)[:at], (*lists)[:at+1]
	case 1:
		if len(*past) < 16 {
			*past, *lists = append(*past, pick(r, symbolsOf(g))), append(*lists, anyNumbers(r, len(c.Items), 3))
		}
	case 2:
		*l = once(append(*l, r.Intn(len(c.Items))))
	case 3:
		if len(*l) > 0 {
			n := r.Intn(len(*l))
			*l = slices.Delete(*l, n, n+1)
		}
	case 4:
		if at < len(*past) {
			(*past)[at] = pick(r, symbolsOf(g))
		}
	}
}

// turnCert changes something in a certificate; it has the shape still.
func turnCert(r *rand.Rand, g api.Grammar, c *api.Cert) {
	state, n := r.Intn(len(c.Items)), r.Intn(len(g.Nons))
	switch r.Intn(8) {
	case 0:
		c.Nullable[n] = !c.Nullable[n]
	case 1:
		c.First[n] = anyNumbers(r, len(g.Terms), len(g.Terms))
	case 2, 3, 4:
		turnItems(r, g, &c.Items[state])
	case 5:
		if state > 0 {
			c.Incoming[state] = pick(r, symbolsOf(g))
		}
	default:
		turnPast(r, g, c, state)
	}
}

// breakCert changes something in a certificate, that it has the shape no more, most often.
func breakCert(r *rand.Rand, g api.Grammar, c *api.Cert) {
	state, n := r.Intn(len(c.Items)), r.Intn(len(g.Nons))
	strange := pick(r, append(symbolsOf(g), api.Sym{}, term(len(g.Terms)), non(len(g.Nons)), api.Sym{Kind: 3}, term(-1)))
	switch r.Intn(8) {
	case 0:
		c.First[n] = append(c.First[n], odd(r, len(g.Terms)))
	case 1:
		c.Items[state] = append(c.Items[state], item(odd(r, len(g.Prods)), odd(r, 2), odd(r, len(g.Terms))))
	case 2:
		c.Incoming[state] = strange
	case 3:
		c.PastSyms[state] = append(c.PastSyms[state], strange)
	case 4:
		c.PastStates[state] = append(c.PastStates[state], []int{odd(r, len(c.Items))})
	case 5:
		c.Nullable = append(c.Nullable, false)
	case 6:
		c.Items = c.Items[:state]
	case 7:
		c.PastStates = append(c.PastStates, nil)
	}
}

// turned is a bundle with some things changed; certificates are made anew for some of its tables.
func turned(r *rand.Rand, g api.Grammar, b api.Bundle, breaks bool) api.Bundle {
	b = deep(b)
	for range r.Intn(3) {
		turnTable(r, g, b.Table)
	}
	if r.Intn(2) == 0 {
		if other, e := cert.Make(g, api.Automaton{States: b.Cert.Items}, b.Table); e == api.OK {
			b.Cert = other
		}
	}
	for range r.Intn(3) {
		turnCert(r, g, &b.Cert)
	}
	if breaks && r.Intn(2) == 0 {
		breakCert(r, g, &b.Cert)
	}
	if breaks && r.Intn(4) == 0 {
		breakTable(r, g, b.Table)
	}
	return b
}
