package grammar_test

import (
	"math"
	"math/rand"
	"slices"
	"testing"

	"gantry/api"
	"gantry/grammar"
)

// P3.3: right sides are turned round, all else is the same.
func TestReverse(t *testing.T) {
	want := calc()
	want.Prods[2].Right = syms(non(0), term(3))
	if got, e := grammar.Reverse(calc()); e != api.OK || !same(got, want) {
		t.Error("calc:", got, e)
	}
	for _, g := range samples(t) {
		want := copyOf(g)
		for n, p := range g.Prods {
			for i, s := range p.Right {
				want.Prods[n].Right[len(p.Right)-1-i] = s
			}
		}
		if got, e := grammar.Reverse(g); e != api.OK || !same(got, want) {
			t.Fatal(g, got, e)
		}
	}
}

// P3.6: Reverse twice is the grammar. (Productions of one left side stay different, so Reverse is never refused.)
func TestReverseTwice(t *testing.T) {
	for _, g := range samples(t) {
		once, e := grammar.Reverse(g)
		if e != api.OK {
			t.Fatal(g, e)
		}
		if twice, e := grammar.Reverse(once); e != api.OK || !same(twice, g) {
			t.Fatal(g, twice, e)
		}
	}
}

// P3.3: names, start, symbols, Prec and levels follow the new numbers, the levels rising; productions stay in order.
func TestRenumber(t *testing.T) {
	want := api.Grammar{
		Terms: []string{"'*'", "'-'", "'='", "'+'", "n"},
		Nons:  []string{"S", "E"},
		Start: 0,
		Prods: []api.Prod{
			{Left: 1, Right: syms(non(1), term(3), non(1)), Prec: -1},
			{Left: 1, Right: syms(non(1), term(0), non(1)), Prec: -1},
			{Left: 1, Right: syms(term(1), non(1)), Prec: 0},
			{Left: 1, Right: syms(term(4)), Prec: -1},
			{Left: 0, Right: syms(non(1)), Prec: -1},
			{Left: 0, Prec: -1},
		},
		Levels: []api.Level{
			{Assoc: api.AssocNone, Terms: []int{2}},
			{Assoc: api.AssocLeft, Terms: []int{1, 3}},
			{Assoc: api.AssocRight, Terms: []int{0}},
		},
	}
	got, e := grammar.Renumber(calc(), []int{4, 3, 0, 1, 2}, []int{1, 0})
	if e != api.OK || !same(got, want) {
		t.Error(got, e)
	}
}

// P3.3: Check's error, ErrCount, ErrRange, ErrTwice, in this order, whichever of the lists has them.
func TestRenumberFaults(t *testing.T) {
	broken := calc()
	broken.Start = 9
	ok := []int{0, 1, 2, 3, 4}
	for _, c := range []struct {
		g           api.Grammar
		terms, nons []int
		e           api.Errno
	}{
		{calc(), ok, []int{0, 1}, api.OK},
		{broken, ok, []int{0, 1}, api.ErrStart},
		{broken, nil, nil, api.ErrStart},
		{broken, []int{9}, []int{0, 0}, api.ErrStart},
		{calc(), nil, []int{0, 1}, api.ErrCount},
		{calc(), ok, nil, api.ErrCount},
		{calc(), ok[:4], []int{0, 1}, api.ErrCount},
		{calc(), []int{0, 1, 2, 3, 4, 5}, []int{0, 1}, api.ErrCount},
		{calc(), ok, []int{0}, api.ErrCount},
		{calc(), ok, []int{0, 1, 2}, api.ErrCount},
		{calc(), []int{0, 0, 9, 0, 0}, []int{0}, api.ErrCount},
		{calc(), []int{0, 1, 2, 3, 5}, []int{0, 1}, api.ErrRange},
		{calc(), []int{-1, 1, 2, 3, 4}, []int{0, 1}, api.ErrRange},
		{calc(), ok, []int{0, 2}, api.ErrRange},
		{calc(), ok, []int{-1, 0}, api.ErrRange},
		{calc(), ok, []int{math.MaxInt, math.MinInt}, api.ErrRange},
		{calc(), []int{0, 0, 2, 3, 4}, []int{0, 2}, api.ErrRange},
		{calc(), []int{0, 0, 2, 3, 5}, []int{0, 1}, api.ErrRange},
		{calc(), []int{0, 1, 2, 3, 0}, []int{0, 1}, api.ErrTwice},
		{calc(), []int{4, 4, 4, 4, 4}, []int{0, 1}, api.ErrTwice},
		{calc(), ok, []int{1, 1}, api.ErrTwice},
	} {
		got, e := grammar.Renumber(c.g, c.terms, c.nons)
		if e != c.e || e != api.OK && !isZero(got) {
			t.Errorf("%v %v: %v %v, want %v", c.terms, c.nons, got, e, c.e)
		}
	}
}

// P3.3: Reverse and Renumber answer Check's error, and no grammar.
func TestTurnsOfWhatMayNotBe(t *testing.T) {
	for _, turn := range turns() {
		g := calc()
		turn.do(&g)
		want, _ := grammar.Check(g)
		if got, e := grammar.Reverse(g); e != want || e != api.OK && !isZero(got) {
			t.Errorf("Reverse, %s: %v %v, want %v", turn.name, got, e, want)
		}
		if want == api.OK {
			continue
		}
		if got, e := grammar.Renumber(g, []int{0, 1, 2, 3, 4}, []int{0, 1}); e != want || !isZero(got) {
			t.Errorf("Renumber, %s: %v %v, want %v", turn.name, got, e, want)
		}
	}
}

// P3.3: each symbol's name, and each place that it stands at, is what it was.
func TestRenumberFollows(t *testing.T) {
	rnd := rand.New(rand.NewSource(5))
	for _, g := range samples(t) {
		terms, nons := rnd.Perm(len(g.Terms)), rnd.Perm(len(g.Nons))
		got, e := grammar.Renumber(g, terms, nons)
		if code, _ := grammar.Check(got); e != api.OK || code != api.OK {
			t.Fatal(g, got, e, code)
		}
		for i, n := range terms {
			if got.Terms[n] != g.Terms[i] || !slices.Equal(grammar.Uses(got, term(n)), grammar.Uses(g, term(i))) {
				t.Fatal("a terminal:", g, got, i, n)
			}
		}
		for i, n := range nons {
			if got.Nons[n] != g.Nons[i] || !slices.Equal(grammar.Uses(got, non(n)), grammar.Uses(g, non(i))) || !slices.Equal(grammar.Rules(got, n), grammar.Rules(g, i)) {
				t.Fatal("a nonterminal:", g, got, i, n)
			}
		}
		if got.Start != nons[g.Start] || len(got.Prods) != len(g.Prods) || len(got.Levels) != len(g.Levels) {
			t.Fatal(g, got)
		}
		for i, p := range g.Prods {
			if q := got.Prods[i]; p.Prec == -1 && q.Prec != -1 || p.Prec != -1 && q.Prec != terms[p.Prec] {
				t.Fatal("a Prec:", g, got, i)
			}
		}
		for i, v := range g.Levels {
			w := got.Levels[i]
			for _, n := range v.Terms {
				if !slices.Contains(w.Terms, terms[n]) {
					t.Fatal("a level:", g, got, i)
				}
			}
			if w.Assoc != v.Assoc || len(w.Terms) != len(v.Terms) {
				t.Fatal("a level:", g, got, i)
			}
		}
	}
}

// through is the one list put through the other.
func through(first, second []int) []int {
	var l []int
	for _, n := range first {
		l = append(l, second[n])
	}
	return l
}

// P3.6: Renumber by two lists one behind the other is Renumber by the one put through the other; by the numbers that there are it changes nothing.
func TestRenumberTwice(t *testing.T) {
	rnd := rand.New(rand.NewSource(6))
	must := func(g api.Grammar, terms, nons []int) api.Grammar {
		out, e := grammar.Renumber(g, terms, nons)
		if e != api.OK {
			t.Fatal(g, terms, nons, e)
		}
		return out
	}
	for _, g := range samples(t) {
		terms, nons := rnd.Perm(len(g.Terms)), rnd.Perm(len(g.Nons))
		moreTerms, moreNons := rnd.Perm(len(g.Terms)), rnd.Perm(len(g.Nons))
		twice := must(must(g, terms, nons), moreTerms, moreNons)
		once := must(g, through(terms, moreTerms), through(nons, moreNons))
		if !same(twice, once) {
			t.Fatal(g, twice, once)
		}
		slices.Sort(terms)
		slices.Sort(nons)
		if !same(must(g, terms, nons), g) {
			t.Fatal("by its own numbers:", g)
		}
	}
}
