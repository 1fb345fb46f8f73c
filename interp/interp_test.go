package interp_test

import (
	"math"
	"math/rand"
	"slices"
	"testing"

	"gantry/api"
	"gantry/canon"
	"gantry/interp"
	"gantry/notation"
	"gantry/table"
	"gantry/trees"
	"gantry/validate"
)

// nest is S → ( S ), S → x.
func nest() api.Grammar {
	return api.Grammar{Terms: []string{"'('", "')'", "x"}, Nons: []string{"S"}, Prods: []api.Prod{prod(0, term(0), non(0), term(1)), prod(0, term(2))}}
}

// nestTable is the table of nest, written down.
func nestTable() api.Table {
	return rows(
		looks(acts(to(1), fault, to(2), fault), 3),
		looks(acts(to(1), fault, to(2), fault), 4),
		looks(acts(fault, by(1), fault, by(1)), -1),
		looks(acts(fault, fault, fault, accept), -1),
		looks(acts(fault, to(5), fault, fault), -1),
		looks(acts(fault, by(0), fault, by(0)), -1),
	)
}

func sameResult(a, b api.Result) bool {
	return a.Accepted == b.Accepted && a.At == b.At && a.Steps == b.Steps && a.Pops == b.Pops && trees.Same(a.Tree, b.Tree)
}

// isNone tells whether a result is the zero value.
func isNone(r api.Result) bool {
	return sameResult(r, api.Result{})
}

// leaf and node are trees.
func leaf(t api.Token) api.Tree { return api.Tree{Prod: -1, Tok: t} }

func node(prod int, kids ...api.Tree) api.Tree { return api.Tree{Prod: prod, Kids: kids} }

// heldOfRun holds Run against the model.
func heldOfRun(t *testing.T, g api.Grammar, y api.Table, w []api.Token, most int) api.Errno {
	t.Helper()
	m, want := ran(g, y, w, most)
	r, e := interp.Run(g, y, w, most)
	if e != want || e != api.OK && !isNone(r) || e == api.OK && !sameResult(r, m.result) {
		t.Fatalf("%v, %v over %v, at most %d: %v, %v, want %v, %v", g, y, w, most, r, e, m.result, want)
	}
	return e
}

// P19.1: the examples of the chapter.
func TestExamples(t *testing.T) {
	w := textOf(0, 2, 1)
	tree := node(0, leaf(w[0]), node(1, leaf(w[1])), leaf(w[2]))
	for _, c := range []struct {
		kinds []int
		want  api.Result
	}{
		{[]int{0, 2, 1}, api.Result{Accepted: true, Tree: tree, Steps: 6, Pops: 4}},
		{[]int{0, 2}, api.Result{At: 2, Steps: 4, Pops: 1}},
		{[]int{1}, api.Result{Steps: 1}},
		{nil, api.Result{Steps: 1}},
		{[]int{0, 2, 1, 1}, api.Result{At: 3, Steps: 6, Pops: 4}},
		{[]int{0, 2, 1, 2}, api.Result{At: 3, Steps: 6, Pops: 4}},
		{[]int{2, 2}, api.Result{At: 1, Steps: 3, Pops: 1}},
	} {
		v := merged(nest(), true)
		if r, e := interp.Parse(v, textOf(c.kinds...)); e != api.OK || !sameResult(r, c.want) {
			t.Error("Parse:", c.kinds, r, e)
		}
		if r, e := interp.Run(nest(), v.Table(), textOf(c.kinds...), 6); e != api.OK || !sameResult(r, c.want) {
			t.Error("Run:", c.kinds, r, e)
		}
	}
	if r, e := interp.Parse(merged(nest(), false), textOf(0, 2, 1, 2)); e != api.OK || r.At != 3 || r.Steps != 4+1 || r.Pops != 1 {
		t.Error("a row that looks refuses at once:", r, e)
	}
}

// DOC.md, example 3: L → L x, L → nothing.
func TestLists(t *testing.T) {
	v := validOf(t, "L : L 'x' | %empty ;")
	for _, n := range []int{0, 1, 2, 100} {
		r, e := interp.Parse(v, make([]api.Token, n))
		if e != api.OK || !r.Accepted || r.Steps != n+(n+1)+1 || r.Pops != 2*n {
			t.Error(n, r.Steps, r.Pops, e)
		}
		if m, _ := ran(v.Grammar(), v.Table(), make([]api.Token, n), r.Steps); m.highest > 2 || m.reductions != n+1 {
			t.Error(n, m.highest, m.reductions)
		}
	}
}

// P19.1: what Parse is asked of that nobody took.
func TestNotMade(t *testing.T) {
	var zero validate.Valid
	for _, v := range []*validate.Valid{nil, &zero} {
		for _, w := range [][]api.Token{nil, textOf(2)} {
			if r, e := interp.Parse(v, w); e != api.ErrMade || !isNone(r) {
				t.Error("Parse:", r, e)
			}
		}
		if m, e := interp.Start(v); m != nil || e != api.ErrMade {
			t.Error("Start:", m, e)
		}
	}
}

// P19.1: the order of Run's errors.
func TestRunErrors(t *testing.T) {
	strange := nest()
	strange.Prods = nil
	short, far := nestTable(), nestTable()
	short.Rows[3].Acts = short.Rows[3].Acts[:3]
	far.Rows[1].Gotos[0] = 6
	both := nestTable()
	both.Rows[1] = blind(0, 4, 4)
	both.Rows[1].Acts[0] = to(1)
	many := api.Table{Rows: slices.Repeat(nestTable().Rows[:1], 2049)}
	for _, c := range []struct {
		about string
		g     api.Grammar
		y     api.Table
		most  int
		want  api.Errno
	}{
		{"no productions", strange, nestTable(), 9, api.ErrProds},
		{"the grammar ahead of all", strange, short, 0, api.ErrProds},
		{"no grammar", api.Grammar{}, api.Table{}, 0, api.ErrTerms},
		{"no rows", nest(), api.Table{}, 9, api.ErrStates},
		{"too many rows", nest(), many, 9, api.ErrStates},
		{"too few actions", nest(), short, 9, api.ErrShape},
		{"a goto to nowhere", nest(), far, 9, api.ErrRange},
		{"a Default beside actions", nest(), both, 9, api.ErrAction},
		{"the table ahead of most", nest(), short, 0, api.ErrShape},
		{"no step", nest(), nestTable(), 0, api.ErrRange},
		{"less than none", nest(), nestTable(), -1, api.ErrRange},
		{"the least number", nest(), nestTable(), math.MinInt, api.ErrRange},
		{"too few steps", nest(), nestTable(), 1, api.ErrMany},
		{"one too few", nest(), nestTable(), 5, api.ErrMany},
		{"as many as it takes", nest(), nestTable(), 6, api.OK},
		{"more", nest(), nestTable(), 7, api.OK},
		{"the greatest number", nest(), nestTable(), math.MaxInt, api.OK},
	} {
		r, e := interp.Run(c.g, c.y, textOf(0, 2, 1), c.most)
		if e != c.want || isNone(r) != (c.want != api.OK) {
			t.Error(c.about, r, e)
		}
	}
	if r, e := interp.Run(nest(), nestTable(), textOf(1), 1); e != api.OK || r.Accepted || r.Steps != 1 {
		t.Error("refused by the last step:", r, e)
	}
}

// P19.1: each way to be stuck, and the step by which it is.
func TestStuck(t *testing.T) {
	// A and B may be nothing; S → A, S → x, A → B x, A → nothing, B → nothing.
	g := grammarOf(1, 3, 0, prod(0, non(1)), prod(0, term(0)), prod(1, non(2), term(0)), prod(1), prod(2))
	none := looks(acts(fault, fault), -1, -1, -1)
	for _, c := range []struct {
		about string
		y     api.Table
		w     []api.Token
		step  int
	}{
		{"a reduction on the bottom", rows(looks(acts(fault, by(1)), -1, -1, -1)), nil, 1},
		{"a reduction of two with one", rows(looks(acts(to(1), fault), -1, -1, -1), looks(acts(fault, by(2)), 0, 0, 0)), textOf(0), 2},
		{"a nonterminal is popped for a terminal", rows(looks(acts(fault, by(4)), -1, -1, 1), looks(acts(fault, by(1)), 0, 0, 0)), nil, 2},
		{"a terminal is popped for a nonterminal", rows(looks(acts(to(1), fault), 1, 1, 1), looks(acts(fault, by(0)), 0, 0, 0)), textOf(0), 2},
		{"another nonterminal is popped", rows(looks(acts(fault, by(4)), -1, -1, 1), looks(acts(fault, by(0)), 0, 0, 0)), nil, 2},
		{"what lies deeper is another", rows(looks(acts(to(1), fault), -1, -1, -1), looks(acts(to(2), fault), 0, 0, 0), looks(acts(fault, by(2)), 0, 0, 0)), textOf(0, 0), 3},
		{"what lies on top is another", rows(looks(acts(fault, by(4)), -1, -1, 1), looks(acts(fault, by(4)), -1, -1, 2), looks(acts(fault, by(2)), 0, 0, 0)), nil, 3},
		{"no goto", rows(looks(acts(to(1), fault), -1, 0, 0), looks(acts(fault, by(1)), 0, 0, 0)), textOf(0), 2},
		{"no goto of the bottom over what is empty", rows(blind(3, 2, 0, -1, 0)), nil, 1},
		{"no goto of the top over what is empty", rows(looks(acts(fault, by(3)), 0, 1, 0), looks(acts(fault, by(4)), 0, 0, -1)), nil, 2},
		{"the end is shifted", rows(looks(acts(fault, to(0)), -1, -1, -1)), nil, 1},
		{"the end is shifted behind a token", rows(looks(acts(to(0), to(0)), -1, -1, -1)), textOf(0), 2},
		{"nothing is accepted", rows(looks(acts(fault, accept), -1, -1, -1)), nil, 1},
		{"a token is accepted", rows(looks(acts(to(1), fault), -1, -1, -1), looks(acts(fault, accept), -1, -1, -1)), textOf(0), 2},
		{"another nonterminal is accepted", rows(looks(acts(fault, by(3)), -1, 1, -1), looks(acts(fault, accept), -1, -1, -1)), nil, 2},
		{"start is accepted over another", rows(looks(acts(fault, by(3)), -1, 1, -1), looks(acts(fault, by(4)), -1, -1, 2), looks(acts(fault, accept), -1, -1, -1)), nil, 3},
		{"start is accepted over start", rows(looks(acts(to(1), fault), 2, -1, -1), looks(acts(by(1), by(1)), -1, -1, -1), looks(acts(to(1), accept), 2, -1, -1)), textOf(0, 0), 5},
	} {
		for len(c.y.Rows) < 3 {
			c.y.Rows = append(c.y.Rows, none)
		}
		for _, most := range []int{c.step, c.step + 1, 100, math.MaxInt} {
			if e := heldOfRun(t, g, c.y, c.w, most); e != api.ErrInternal {
				t.Error(c.about, most, e)
			}
		}
		if c.step > 1 {
			if e := heldOfRun(t, g, c.y, c.w, c.step-1); e != api.ErrMany {
				t.Error(c.about, "within fewer steps:", e)
			}
		}
	}
}

// P19.1: an acceptance ahead of the text's end is one, where nobody asked whether it may be.
func TestAcceptedEarly(t *testing.T) {
	g := grammarOf(1, 1, 0, prod(0, term(0)))
	y := rows(looks(acts(to(1), fault), 2), blind(0, 2, -1), looks(acts(accept, accept), -1))
	w := textOf(0, 0, 0)
	want := api.Result{Accepted: true, Tree: node(0, leaf(w[0])), Steps: 3, Pops: 1}
	if r, e := interp.Run(g, y, w, 3); e != api.OK || !sameResult(r, want) {
		t.Error(r, e)
	}
	heldOfRun(t, g, y, w, 2)
}

// strangeKinds are no terminal's of a grammar with so many.
func strangeKinds(terms int) []int {
	return []int{terms, terms + 1, -1, -2, 99, math.MaxInt, math.MinInt, math.MaxInt32 + 1, 1 << 32, 1<<32 + 2}
}

// P19.1: a token whose Kind is no terminal's is refused where a row looks, the end marker's number, too.
func TestStrangeKinds(t *testing.T) {
	for _, defaults := range []bool{false, true} {
		v := merged(nest(), defaults)
		for _, kind := range strangeKinds(3) {
			for _, c := range []struct {
				ahead       []int
				steps, pops int
			}{
				{nil, 1, 0},
				{[]int{0}, 2, 0},
				{[]int{2}, 2, 0},
				{[]int{0, 2}, 3, 0},
				{[]int{0, 2, 1}, 5, 1},
			} {
				want := api.Result{At: len(c.ahead), Steps: c.steps, Pops: c.pops}
				if n := len(c.ahead); defaults && n > 0 && c.ahead[n-1] != 0 { // the row on top does not look: it reduces
					want.Steps++
					want.Pops += 1 + 2*(n/3)
				}
				w := append(textOf(c.ahead...), textOf(kind, 1, 2)...)
				r, e := interp.Parse(v, w)
				if e != api.OK || !sameResult(r, want) {
					t.Error(defaults, c.ahead, kind, r, e)
				}
				heldOfRun(t, nest(), v.Table(), w, 100)
			}
		}
	}
	y := rows(looks(acts(to(0), to(0), to(0), accept), 0))
	for _, kind := range strangeKinds(3) { // neither shifted nor taken for the end
		if r, e := interp.Run(nest(), y, textOf(0, kind), 9); e != api.OK || r.Accepted || r.At != 1 || r.Steps != 2 {
			t.Error(kind, r, e)
		}
	}
}

// endless are tables that run for ever, over some text.
func endless() []struct {
	about string
	g     api.Grammar
	y     api.Table
	w     []api.Token
} {
	// S → A S, S → x, A → nothing, B → A, A → B, A → A A.
	g := grammarOf(1, 3, 0, prod(0, non(1), non(0)), prod(0, term(0)), prod(1), prod(2, non(1)), prod(1, non(2)), prod(1, non(1), non(1)))
	nothing := looks(acts(fault, fault), -1, -1, -1)
	return []struct {
		about string
		g     api.Grammar
		y     api.Table
		w     []api.Token
	}{
		{"it grows, without a look", g, rows(blind(2, 2, -1, 0, -1)), nil},
		{"it grows, and looks", g, rows(looks(acts(by(2), fault), -1, 0, -1)), textOf(0)},
		{"it grows by turns", g, rows(looks(acts(fault, by(2)), -1, 1, -1), looks(acts(fault, by(2)), -1, 2, -1), looks(acts(fault, by(2)), -1, 1, -1)), nil},
		{"it grows behind a token", g, rows(looks(acts(to(1), fault), -1, -1, -1), looks(acts(fault, by(2)), -1, 1, -1)), textOf(0)},
		{"A and B by turns", g, rows(looks(acts(fault, by(2)), -1, 1, 2), looks(acts(fault, by(3)), -1, -1, -1), looks(acts(fault, by(4)), -1, -1, -1)), nil},
		{"A and B by turns, over a token", g, rows(looks(acts(to(3), fault), -1, -1, -1), looks(acts(fault, by(3)), -1, -1, -1), looks(acts(fault, by(4)), -1, -1, -1), looks(acts(fault, by(2)), -1, 1, 2)), textOf(0)},
		{"it grows and shrinks", g, rows(looks(acts(fault, by(2)), -1, 1, -1), looks(acts(fault, by(2)), -1, 2, -1), looks(acts(fault, by(5)), -1, -1, -1), nothing), nil},
		{"it grows by more than it shrinks", g, rows(looks(acts(fault, by(2)), -1, 1, 2), looks(acts(fault, by(3)), -1, -1, -1), looks(acts(fault, by(2)), -1, 1, 2)), nil},
	}
}

// P19.1, P1 of DOC.md: a run that never ends is told, however many steps it may take.
func TestEndless(t *testing.T) {
	for _, c := range endless() {
		if m, e := ran(c.g, c.y, c.w, 5000); e == api.ErrInternal {
			t.Fatal(c.about, "is stuck:", m.result.Steps)
		}
		for _, most := range []int{1, 2, 3, 5, 10, 100, 5000} {
			if e := heldOfRun(t, c.g, c.y, c.w, most); e != api.ErrMany {
				t.Error(c.about, most, e)
			}
		}
		for _, most := range []int{1 << 31, 1 << 40, math.MaxInt} {
			if r, e := interp.Run(c.g, c.y, c.w, most); e != api.ErrMany || !isNone(r) {
				t.Error(c.about, most, r, e)
			}
		}
	}
}

// chain is N0 → N1, N1 → N2, .., the last gives nothing; its table lays one over the bottom for another.
func chain(n int) (api.Grammar, api.Table) {
	g := grammarOf(1, n, 0)
	bottom := looks(acts(fault, by(n-1)))
	y := rows(bottom)
	for i := range n {
		g.Prods = append(g.Prods, prod(i, non(i+1)))
		bottom.Gotos = append(bottom.Gotos, i+1)
		y.Rows = append(y.Rows, looks(acts(fault, by(i-1)), slices.Repeat([]int{-1}, n)...))
	}
	g.Prods[n-1].Right = nil
	y.Rows[0] = bottom
	y.Rows[1].Acts[1] = accept
	return g, y
}

// tower is S → N N .. N of as many as there may be, N → nothing: each in a state of its own.
func tower(n int) (api.Grammar, api.Table) {
	g := grammarOf(1, 2, 0, prod(0, slices.Repeat([]api.Sym{non(1)}, n)...), prod(1))
	var y api.Table
	for i := range n {
		y.Rows = append(y.Rows, looks(acts(fault, by(1)), -1, i+1))
	}
	y.Rows = append(y.Rows, looks(acts(fault, by(0)), -1, -1), looks(acts(fault, accept), -1, -1))
	y.Rows[0].Gotos[0] = n + 1
	return g, y
}

// counter counts: over each of width symbols below it goes through width symbols, again and again, ahead of the acceptance.
func counter(width int) (api.Grammar, api.Table) {
	digit := func(n int) api.Sym { return non(1 + n) }
	last := digit(width - 1)
	g := grammarOf(1, 1+width, 0, prod(0, last, last), prod(1))
	for n := 1; n < width; n++ {
		g.Prods = append(g.Prods, prod(1+n, digit(n-1)), prod(1+n, digit(n-1), last))
	}
	below := func(n int) int { return 2 + n }
	above := func(under, n int) int { return 2 + width + under*width + n }
	none := slices.Repeat([]int{-1}, 1+width)
	y := rows(looks(acts(fault, by(1)), slices.Clone(none)...), looks(acts(fault, accept), none...))
	y.Rows[0].Gotos[0] = 1
	for n := range width {
		y.Rows[0].Gotos[1+n] = below(n)
		row := looks(acts(fault, by(1)), -1)
		for m := range width {
			row.Gotos = append(row.Gotos, above(n, m))
		}
		y.Rows = append(y.Rows, row)
	}
	for n := range width {
		for m := range width {
			do := by(2 + 2*m)
			switch {
			case m == width-1 && n == width-1:
				do = by(0)
			case m == width-1:
				do = by(3 + 2*n)
			}
			y.Rows = append(y.Rows, looks(acts(fault, do), none...))
		}
	}
	return g, y
}

// P19.1: long runs without a token, that end.
func TestNotEndless(t *testing.T) {
	held := func(about string, g api.Grammar, y api.Table, steps int) {
		t.Helper()
		r, e := interp.Run(g, y, nil, math.MaxInt)
		if e != api.OK || !r.Accepted || r.Steps != steps {
			t.Error(about, r.Steps, e)
		}
		if e, _ := trees.Check(g, r.Tree); e != api.OK {
			t.Error(about, e)
		}
		if e := heldOfRun(t, g, y, nil, steps); e != api.OK {
			t.Error(about, e)
		}
		if e := heldOfRun(t, g, y, nil, steps-1); e != api.ErrMany {
			t.Error(about, e)
		}
	}
	for _, n := range []int{1, 2, 3, 64} {
		g, y := chain(n)
		held("chain", g, y, n+1)
	}
	for n := range 17 {
		g, y := tower(n)
		held("tower", g, y, n+2)
	}
	for _, n := range []int{2, 3, 40} {
		g, y := counter(n)
		held("counter", g, y, n*(n+1)+2)
	}
}

// P19.1: all tables of two rows for one grammar, over short texts.
func TestAllSmallTables(t *testing.T) {
	g := grammarOf(1, 2, 0, prod(0, non(1), term(0)), prod(1), prod(1, non(0)), prod(0, non(1)))
	var all []api.Row
	kinds := acts(fault, accept, to(0), to(1), by(0), by(1), by(2), by(3))
	for a := range 3 {
		for b := range 3 {
			for p := range g.Prods {
				all = append(all, blind(p, 2, a-1, b-1))
			}
			for _, do := range kinds {
				for _, last := range kinds {
					all = append(all, looks(acts(do, last), a-1, b-1))
				}
			}
		}
	}
	seen := map[api.Errno]int{}
	for i, one := range all {
		for j, other := range all {
			if (i*len(all)+j)%7 != 3 { // a seventh of them is enough
				continue
			}
			y := rows(one, other)
			for length := range 3 {
				seen[heldOfRun(t, g, y, make([]api.Token, length), 300)]++
			}
		}
	}
	for _, e := range []api.Errno{api.OK, api.ErrMany, api.ErrInternal} {
		if seen[e] < 1000 {
			t.Error("too seldom:", seen)
		}
	}
}

// P19.1: tables of nobody, over texts of any kinds, with any number of steps.
func TestAnyTables(t *testing.T) {
	r := rand.New(rand.NewSource(191))
	seen := map[string]int{}
	const patience = 1500
	for range 60000 {
		g := anyGrammar(r, 2, 3, 6, 3)
		y := anyTable(r, g, 1+r.Intn(6))
		var kinds []int
		for range r.Intn(5) {
			kinds = append(kinds, r.Intn(len(g.Terms)+r.Intn(2)))
		}
		w := textOf(kinds...)
		for _, most := range []int{1 + r.Intn(12), patience} {
			switch heldOfRun(t, g, y, w, most) {
			case api.ErrMany:
				seen["many"]++
			case api.ErrInternal:
				seen["stuck"]++
			default:
				seen["over"]++
			}
		}
		result, e := interp.Run(g, y, w, math.MaxInt)
		if m, want := ran(g, y, w, patience); want != api.ErrMany && (e != want || e == api.OK && !sameResult(result, m.result)) || want == api.ErrMany && (e != api.ErrMany && result.Steps <= patience) {
			t.Fatal(g, y, w, result, e, want)
		}
		if result.Accepted {
			seen["accepted"]++
		}
	}
	for _, name := range []string{"many", "stuck", "over", "accepted"} {
		if seen[name] < 200 {
			t.Error("too seldom:", name, seen)
		}
	}
}

// P19.1: what precedence decided nobody takes; Run runs it all the same.
func TestRunOfConflicts(t *testing.T) {
	g, e, at := notation.Parse("%left '+' %left '*' %term n E : E '+' E | E '*' E | n ;")
	if e != api.OK {
		t.Fatal(e, at)
	}
	y, _, _, e := table.Build(g, must(canon.Merged(g)))
	if e != api.OK || merged(g, false) != nil {
		t.Fatal("it is taken:", e)
	}
	w := textOf(2, 0, 2, 1, 2, 0, 2)
	r, e := interp.Run(g, y, w, 100)
	if text, _ := trees.Print(g, r.Tree); e != api.OK || text != "(E (E (E n) '+' (E (E n) '*' (E n))) '+' (E n))" || r.Steps != 7+7+1 || r.Pops != 4+9 {
		t.Error(text, r, e)
	}
}

// G7 of DOC.md: without the rule on gotos over empty ones a table could pass that runs for ever; without the past states one that gets stuck.
func TestNoCheckIsTooMuch(t *testing.T) {
	// S → A x, S → y z, A → nothing: under z behind A another A is laid, and so on.
	longer := grammarOf(3, 2, 0, prod(0, non(1), term(0)), prod(0, term(1), term(2)), prod(1))
	circles := rows(
		looks(acts(by(2), to(5), by(2), fault), 3, 1),
		looks(acts(to(2), fault, by(2), fault), 4, 1),
		looks(acts(fault, fault, fault, by(0)), -1, -1),
		looks(acts(fault, fault, fault, accept), -1, -1),
		looks(make([]api.Action, 4), -1, -1),
		looks(acts(fault, fault, to(6), fault), -1, -1),
		looks(acts(fault, fault, fault, by(1)), -1, -1),
	)
	if e := heldOfRun(t, longer, circles, textOf(2), 1000); e != api.ErrMany {
		t.Error("a loop over empty ones:", e)
	}
	if e := heldOfRun(t, longer, circles, textOf(0), 1000); e != api.OK {
		t.Error("x is accepted:", e)
	}
	// S → a B, B → b: b is shifted at once, and nothing is done with the B that comes of it.
	early := grammarOf(2, 2, 0, prod(0, term(0), non(1)), prod(1, term(1)))
	y := merged(early, false).Table()
	y.Rows[0].Acts[1] = y.Rows[y.Rows[0].Acts[0].Arg].Acts[1]
	if e := heldOfRun(t, early, y, textOf(1), 1000); e != api.ErrInternal {
		t.Error("no goto:", e)
	}
	if e := heldOfRun(t, early, y, textOf(0, 1), 1000); e != api.OK {
		t.Error("a b is accepted:", e)
	}
}
