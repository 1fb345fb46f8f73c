package grammar_test

import (
	"math"
	"slices"
	"strings"
	"testing"

	"gantry/api"
	"gantry/grammar"
	"gantry/symbols"
)

// turn makes another grammar of one, in place.
type turn struct {
	name string
	do   func(g *api.Grammar)
}

// atProd turns a production that g has.
func atProd(n int, do func(p *api.Prod)) func(g *api.Grammar) {
	return func(g *api.Grammar) {
		if n < len(g.Prods) {
			do(&g.Prods[n])
		}
	}
}

// atLevel turns a level that g has.
func atLevel(n int, do func(l *api.Level)) func(g *api.Grammar) {
	return func(g *api.Grammar) {
		if n < len(g.Levels) {
			do(&g.Levels[n])
		}
	}
}

// turns are those of each thing that Check asks, to what may be and to what may not, at the edges.
func turns() []turn {
	l := []turn{
		{"nothing", func(g *api.Grammar) {}},
		{"no terminals", func(g *api.Grammar) { g.Terms = nil }},
		{"one terminal", func(g *api.Grammar) { g.Terms = []string{"a"} }},
		{"64 terminals", func(g *api.Grammar) { g.Terms = numbered("t", 64) }},
		{"65 terminals", func(g *api.Grammar) { g.Terms = numbered("t", 65) }},
		{"no nonterminals", func(g *api.Grammar) { g.Nons = []string{} }},
		{"one nonterminal", func(g *api.Grammar) { g.Nons = []string{"A"} }},
		{"64 nonterminals", func(g *api.Grammar) { g.Nons = numbered("n", 64) }},
		{"65 nonterminals", func(g *api.Grammar) { g.Nons = numbered("n", 65) }},
		{"a terminal without a name", func(g *api.Grammar) { g.Terms = append([]string{"a", "b", ""}, numbered("x", 5)...) }},
		{"a terminal's name twice", func(g *api.Grammar) { g.Terms = []string{"a", "b", "c", "d", "'x'", "b"} }},
		{"a quoted nonterminal", func(g *api.Grammar) { g.Nons = []string{"A", "'x'"} }},
		{"a nonterminal named as a terminal", func(g *api.Grammar) { g.Nons = []string{"A", "n"} }},
		{"a name of 33 bytes", func(g *api.Grammar) { g.Nons = []string{"A", strings.Repeat("w", 33)} }},
		{"no productions", func(g *api.Grammar) { g.Prods = nil }},
		{"256 productions", func(g *api.Grammar) { g.Prods = manyProds(256) }},
		{"257 productions", func(g *api.Grammar) { g.Prods = manyProds(257) }},
		{"no levels", func(g *api.Grammar) { g.Levels = nil }},
		{"32 levels", func(g *api.Grammar) { g.Levels = manyLevels(32) }},
		{"33 levels", func(g *api.Grammar) { g.Levels = manyLevels(33) }},
	}
	for _, n := range []int{math.MinInt, -1, 0, 1, 2, 64, math.MaxInt} {
		l = append(l, turn{"a start", func(g *api.Grammar) { g.Start = n }})
	}
	return slices.Concat(l, prodTurns(), levelTurns())
}

func prodTurns() []turn {
	var l []turn
	for _, at := range []int{0, 2, 3} {
		for _, n := range []int{math.MinInt, -1, 0, 1, 2, 64, math.MaxInt} {
			l = append(l, turn{"a left side", atProd(at, func(p *api.Prod) { p.Left = n })})
		}
		for _, n := range []int{math.MinInt, -2, -1, 0, 4, 5, 64, math.MaxInt} {
			l = append(l, turn{"a Prec", atProd(at, func(p *api.Prod) { p.Prec = n })})
		}
		for _, right := range [][]api.Sym{
			nil, {}, syms(term(0)), syms(non(0)), syms(non(0), term(1), non(0)),
			slices.Repeat(syms(non(1)), 16), slices.Repeat(syms(non(1)), 17), slices.Repeat(syms(term(9)), 17),
			append(slices.Repeat(syms(non(1)), 15), non(2)),
			syms(term(4)), syms(term(5)), syms(term(-1)), syms(non(2)), syms(non(-1)),
			syms(term(0), api.Sym{}), syms(api.Sym{Kind: 3}, term(0)), syms(term(math.MaxInt)), syms(non(math.MinInt)),
		} {
			l = append(l, turn{"a right side", atProd(at, func(p *api.Prod) { p.Right = right })})
		}
	}
	return l
}

func levelTurns() []turn {
	var l []turn
	for _, at := range []int{0, 1, 2} {
		for _, a := range []api.Assoc{math.MinInt, -1, 0, 1, 2, 3, 4, math.MaxInt} {
			l = append(l, turn{"an Assoc", atLevel(at, func(l *api.Level) { l.Assoc = a })})
		}
		for _, terms := range [][]int{
			nil, {}, {0}, {4}, {5}, {-1}, {math.MinInt}, {math.MaxInt}, {0, 4}, {0, 5}, {5, 0}, {0, 0}, {3, 0}, {0, 3, 2}, {2, 4}, {1, 4}, {0, 1, 2, 3, 4},
		} {
			l = append(l, turn{"a level's terminals", atLevel(at, func(l *api.Level) { l.Terms = terms })})
		}
	}
	return l
}

// manyProds are all different, and of calc's symbols.
func manyProds(n int) []api.Prod {
	var l []api.Prod
	for i := range n {
		p := api.Prod{Prec: -1}
		for ; i > 0; i /= 4 {
			p.Right = append(p.Right, term(1+i%4))
		}
		l = append(l, p)
	}
	return l
}

// manyLevels have one terminal each.
func manyLevels(n int) []api.Level {
	var l []api.Level
	for i := range n {
		l = append(l, api.Level{Assoc: api.Assoc(1 + i%3), Terms: []int{i}})
	}
	return l
}

// fault is one of all that are wrong with a grammar: its rank in the chapter's order.
type fault struct {
	rank [3]int
	e    api.Errno
	at   int
}

// faultsOf are all faults of a grammar, each asked on its own, whatever the others are.
func faultsOf(g api.Grammar) []fault {
	var l []fault
	add := func(wrong bool, e api.Errno, at int, rank ...int) {
		if wrong {
			l = append(l, fault{[3]int(append(rank, 0, 0, 0)[:3]), e, at})
		}
	}
	add(len(g.Terms) < 1 || len(g.Terms) > 64, api.ErrTerms, 0, 1)
	add(len(g.Nons) < 1 || len(g.Nons) > 64, api.ErrNons, 0, 2)
	e, at := symbols.CheckNames(g.Terms, g.Nons)
	add(e != api.OK, e, at, 3)
	add(!grammar.In(g, non(g.Start)), api.ErrStart, 0, 4)
	add(len(g.Prods) < 1 || len(g.Prods) > 256, api.ErrProds, 0, 5)
	for i, p := range g.Prods {
		add(!grammar.In(g, non(p.Left)), api.ErrSymbol, i, 6, i, 0)
		add(len(p.Right) > 16, api.ErrRight, i, 6, i, 1)
		for _, s := range p.Right {
			add(!grammar.In(g, s), api.ErrSymbol, i, 6, i, 2)
		}
		for _, q := range g.Prods[:i] {
			add(q.Left == p.Left && slices.Equal(q.Right, p.Right), api.ErrTwice, i, 6, i, 3)
		}
		add(p.Prec != -1 && !grammar.In(g, term(p.Prec)), api.ErrPrec, i, 6, i, 4)
	}
	add(len(g.Levels) > 32, api.ErrLevel, 0, 7)
	for i, v := range g.Levels {
		add(v.Assoc < 1 || v.Assoc > 3 || len(v.Terms) == 0, api.ErrLevel, i, 8, i, 0)
		for k, n := range v.Terms {
			add(!grammar.In(g, term(n)), api.ErrRange, i, 8, i, 1)
			add(k > 0 && n <= v.Terms[k-1], api.ErrOrder, i, 8, i, 2)
			for _, w := range g.Levels[:i] {
				add(slices.Contains(w.Terms, n), api.ErrTwice, i, 8, i, 3)
			}
		}
	}
	return l
}

// firstFault is the one of the least rank.
func firstFault(g api.Grammar) (api.Errno, int) {
	l := faultsOf(g)
	if len(l) == 0 {
		return api.OK, 0
	}
	f := slices.MinFunc(l, func(a, b fault) int { return slices.Compare(a.rank[:], b.rank[:]) })
	return f.e, f.at
}

// P3.1: of every two turns of a grammar the fault that the chapter names first is told.
func TestCheckOrder(t *testing.T) {
	seen := map[api.Errno]int{}
	for _, a := range turns() {
		for _, b := range turns() {
			g := calc()
			a.do(&g)
			b.do(&g)
			want, wantAt := firstFault(g)
			if e, at := grammar.Check(g); e != want || at != wantAt {
				t.Fatalf("%s, %s: %v %d, want %v %d: %v", a.name, b.name, e, at, want, wantAt, g)
			}
			seen[want]++
		}
	}
	for _, e := range []api.Errno{api.OK, api.ErrTerms, api.ErrNons, api.ErrName, api.ErrTwice, api.ErrStart, api.ErrProds, api.ErrSymbol, api.ErrRight, api.ErrPrec, api.ErrLevel, api.ErrRange, api.ErrOrder} {
		if seen[e] == 0 {
			t.Error("never met:", e)
		}
	}
}

// P3.1 and example 2: each fault alone, and its place.
func TestCheckFaults(t *testing.T) {
	for _, c := range []struct {
		do func(g *api.Grammar)
		e  api.Errno
		at int
	}{
		{func(g *api.Grammar) {}, api.OK, 0},
		{func(g *api.Grammar) { *g = api.Grammar{} }, api.ErrTerms, 0},
		{func(g *api.Grammar) { g.Terms = nil }, api.ErrTerms, 0},
		{func(g *api.Grammar) { g.Terms = numbered("t", 65) }, api.ErrTerms, 0},
		{func(g *api.Grammar) { g.Nons = nil }, api.ErrNons, 0},
		{func(g *api.Grammar) { g.Nons = numbered("N", 65) }, api.ErrNons, 0},
		{func(g *api.Grammar) { g.Terms[3] = "" }, api.ErrName, 3},
		{func(g *api.Grammar) { g.Terms[3] = "n" }, api.ErrTwice, 3},
		{func(g *api.Grammar) { g.Nons[1] = "'S'" }, api.ErrName, 6},
		{func(g *api.Grammar) { g.Nons[0] = "n" }, api.ErrTwice, 5},
		{func(g *api.Grammar) { g.Start = 2 }, api.ErrStart, 0},
		{func(g *api.Grammar) { g.Start = -1 }, api.ErrStart, 0},
		{func(g *api.Grammar) { g.Prods = []api.Prod{} }, api.ErrProds, 0},
		{func(g *api.Grammar) { g.Prods = manyProds(257) }, api.ErrProds, 0},
		{func(g *api.Grammar) { g.Prods[3].Left = 2 }, api.ErrSymbol, 3},
		{func(g *api.Grammar) { g.Prods[3].Right = slices.Repeat(syms(term(0)), 17) }, api.ErrRight, 3},
		{func(g *api.Grammar) { g.Prods[3].Right[0] = term(5) }, api.ErrSymbol, 3},
		{func(g *api.Grammar) { g.Prods = append(g.Prods, g.Prods[1]) }, api.ErrTwice, 6},
		{func(g *api.Grammar) { g.Prods[4] = api.Prod{Left: 1, Right: syms(), Prec: 0} }, api.ErrTwice, 5},
		{func(g *api.Grammar) { g.Prods[4].Prec = 5 }, api.ErrPrec, 4},
		{func(g *api.Grammar) { g.Prods[4].Prec = -2 }, api.ErrPrec, 4},
		{func(g *api.Grammar) { g.Levels = manyLevels(33) }, api.ErrLevel, 0},
		{func(g *api.Grammar) { g.Levels[2].Assoc = 4 }, api.ErrLevel, 2},
		{func(g *api.Grammar) { g.Levels[2].Assoc = 0 }, api.ErrLevel, 2},
		{func(g *api.Grammar) { g.Levels[2].Terms = nil }, api.ErrLevel, 2},
		{func(g *api.Grammar) { g.Levels[2].Terms = []int{5} }, api.ErrRange, 2},
		{func(g *api.Grammar) { g.Levels[2].Terms = []int{2, 2} }, api.ErrOrder, 2},
		{func(g *api.Grammar) { g.Levels[2].Terms = []int{2, 4} }, api.ErrTwice, 2},
	} {
		g := calc()
		c.do(&g)
		if e, at := grammar.Check(g); e != c.e || at != c.at {
			t.Errorf("%v: %v %d, want %v %d", g, e, at, c.e, c.at)
		}
	}
}

// P3.1: the same left side alone, or the same right side alone, is no production twice.
func TestCheckTakesLikeProductions(t *testing.T) {
	g := sum()
	g.Nons = append(g.Nons, "F")
	for _, right := range [][]api.Sym{nil, syms(term(0)), syms(term(0), term(0)), syms(non(0)), syms(non(0), term(0))} {
		g.Prods = append(g.Prods, api.Prod{Left: 0, Right: right, Prec: -1}, api.Prod{Left: 1, Right: right, Prec: -1})
	}
	if e, at := grammar.Check(g); e != api.OK || at != 0 {
		t.Error(e, at)
	}
}

// P3.1: a grammar may be at every limit; what it is of use for, or how its nonterminals are reached, is not asked.
func TestCheckTakesTheGreatest(t *testing.T) {
	if e, at := grammar.Check(greatest()); e != api.OK || at != 0 {
		t.Error(e, at)
	}
	least := api.Grammar{Terms: []string{"a"}, Nons: []string{"S"}, Prods: []api.Prod{{Prec: -1}}}
	if e, at := grammar.Check(least); e != api.OK || at != 0 {
		t.Error(e, at)
	}
	useless := api.Grammar{Terms: []string{"a"}, Nons: []string{"S", "T"}, Prods: []api.Prod{{Left: 1, Right: syms(non(1)), Prec: 0}}}
	if e, at := grammar.Check(useless); e != api.OK || at != 0 {
		t.Error(e, at)
	}
}
