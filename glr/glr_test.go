package glr_test

import (
	"math"
	"math/rand"
	"slices"
	"testing"

	"gantry/api"
	"gantry/glr"
	"gantry/grammar"
	"gantry/trees"
)

// sums is E -> E + E, E -> n; + is 0, n is 1.
func sums() api.Grammar {
	return grammarOf(2, 1, 0, prod(0, non(0), term(0), non(0)), prod(0, term(1)))
}

// doubles is S -> S S, S -> a, S -> nothing.
func doubles() api.Grammar {
	return grammarOf(1, 1, 0, prod(0, non(0), non(0)), prod(0, term(0)), prod(0))
}

// The chapter's first example, whole.
func TestSums(t *testing.T) {
	g, w := sums(), text(1, 0, 1, 0, 1)
	f, e := glr.Forest(g, w)
	want := forestOf(
		nodeOf(non(0), 0, 5, []int{0, 1, 2, 3}, []int{0, 4, 5, 6}),
		nodeOf(non(0), 0, 1, []int{1, 7}),
		nodeOf(term(0), 1, 2),
		nodeOf(non(0), 2, 5, []int{0, 8, 5, 6}),
		nodeOf(non(0), 0, 3, []int{0, 1, 2, 8}),
		nodeOf(term(0), 3, 4),
		nodeOf(non(0), 4, 5, []int{1, 9}),
		nodeOf(term(1), 0, 1),
		nodeOf(non(0), 2, 3, []int{1, 10}),
		nodeOf(term(1), 4, 5),
		nodeOf(term(1), 2, 3),
	)
	if e != api.OK || !sameForest(f, want) {
		t.Fatal(f, e)
	}
	if n, e := glr.Count(f, 9); n != 2 || e != api.OK {
		t.Error("Count:", n, e)
	}
	if l := glr.Loops(f); len(l) > 0 {
		t.Error("Loops:", l)
	}
	if l := glr.Ambiguous(f); !slices.Equal(l, []int{0}) {
		t.Error("Ambiguous:", l)
	}
	l, e := glr.Trees(g, f, w, 2)
	var told []string
	for _, x := range l {
		told = append(told, must(trees.Print(g, x)))
	}
	if e != api.OK || !slices.Equal(told, []string{
		"(n0 (n0 t1) t0 (n0 (n0 t1) t0 (n0 t1)))",
		"(n0 (n0 (n0 t1) t0 (n0 t1)) t0 (n0 t1))",
	}) {
		t.Error("Trees:", told, e)
	}
	if s, e := glr.Print(g, f); e != api.OK || s != `0 n0 0 5 | 0 1 2 3 | 0 4 5 6
1 n0 0 1 | 1 7
2 t0 1 2
3 n0 2 5 | 0 8 5 6
4 n0 0 3 | 0 1 2 8
5 t0 3 4
6 n0 4 5 | 1 9
7 t1 0 1
8 n0 2 3 | 1 10
9 t1 4 5
10 t1 2 3
` {
		t.Error("Print:", s, e)
	}
}

// The chapter's second example.
func TestDoubles(t *testing.T) {
	g := doubles()
	f, e := glr.Forest(g, text(0))
	want := forestOf(
		nodeOf(non(0), 0, 1, []int{0, 1, 0}, []int{0, 0, 2}, []int{1, 3}),
		nodeOf(non(0), 0, 0, []int{0, 1, 1}, []int{2}),
		nodeOf(non(0), 1, 1, []int{0, 2, 2}, []int{2}),
		nodeOf(term(0), 0, 1),
	)
	if e != api.OK || !sameForest(f, want) {
		t.Fatal(f, e)
	}
	if l := glr.Loops(f); !slices.Equal(l, []int{0, 1, 2}) {
		t.Error("Loops:", l)
	}
	for _, most := range []int{1, 5, 4097, math.MaxInt} {
		if n, e := glr.Count(f, most); n != most || e != api.OK {
			t.Error("Count:", n, e)
		}
	}
	if l := glr.Ambiguous(f); !slices.Equal(l, []int{0, 1, 2}) {
		t.Error("Ambiguous:", l)
	}
	if l, e := glr.Trees(g, f, text(0), 4096); len(l) != 0 || e != api.ErrMany {
		t.Error("Trees:", l, e)
	}
}

// heldOfForest holds Forest and Accepts of a text against the model.
func heldOfForest(t *testing.T, g api.Grammar, w []api.Token, seen map[string]int) api.Forest {
	t.Helper()
	f, e := glr.Forest(g, w)
	want := modelForest(g, w)
	if e != api.OK || !sameForest(f, want) {
		t.Fatal("P24.1: Forest:", g.Prods, g.Start, w, f, e, want)
	}
	if b, e := glr.Accepts(g, w); e != api.OK || b != (len(want.Nodes) > 0) {
		t.Fatal("P24.1: Accepts:", g.Prods, g.Start, w, b, e)
	}
	loops := glr.Loops(f)
	switch n := modelCount(f); {
	case n == 0:
		seen["refused"]++
	case len(loops) > 0:
		seen["loops"]++
	case n == 1:
		seen["one"]++
	default:
		seen["ambiguous"]++
	}
	return f
}

// P24.1: every grammar of one terminal, two nonterminals and at most three short productions.
func TestSmallGrammars(t *testing.T) {
	seen := map[string]int{}
	eachSmall(1, 2, func(g api.Grammar) {
		eachWord(below(1), 4, func(w []int) { heldOfForest(t, g, text(w...), seen) })
		heldOfForest(t, g, text(1), seen)
		heldOfForest(t, g, text(0, -1), seen)
	})
	seenAll(t, seen, 150, "refused", "loops", "one", "ambiguous")
}

// P24.1: two terminals and one nonterminal, likewise.
func TestSmallGrammarsOfOne(t *testing.T) {
	seen := map[string]int{}
	eachSmall(2, 1, func(g api.Grammar) {
		eachWord(below(3), 3, func(w []int) { heldOfForest(t, g, text(w...), seen) })
	})
	seenAll(t, seen, 20, "refused", "loops", "one", "ambiguous")
}

// P24.1: greater grammars, many with barren, unreached and circular nonterminals, or with much that may be nothing.
func TestGreaterGrammars(t *testing.T) {
	r := rand.New(rand.NewSource(241))
	seen := map[string]int{}
	for range 3000 {
		g := anyGrammar(r, 3, 4, 10, 3)
		if r.Intn(2) == 0 {
			g = layered(r, 2, 5, 10, 3)
		}
		eachWord(below(len(g.Terms)), 2, func(w []int) { heldOfForest(t, g, text(w...), seen) })
		for range 5 {
			heldOfForest(t, g, text(anyKinds(r, g, 7)...), seen)
		}
	}
	seenAll(t, seen, 500, "refused", "loops", "one", "ambiguous")
}

// P24.1: longer right sides and texts.
func TestLongerTexts(t *testing.T) {
	seen := map[string]int{}
	for _, c := range []struct {
		g api.Grammar
		w []int
	}{
		{sums(), append(slices.Repeat([]int{1, 0}, 12), 1)},
		{sums(), append(slices.Repeat([]int{1, 0}, 12), 0, 1)},
		{doubles(), make([]int, 12)},
		{grammarOf(1, 2, 1, prod(0, term(0)), prod(1, non(0), non(1), non(0)), prod(1, non(1), non(0)), prod(1)), make([]int, 14)},
		{grammarOf(2, 1, 0, prod(0, term(0), non(0), term(0)), prod(0, term(1), non(0), term(1)), prod(0)), slices.Concat(slices.Repeat([]int{0, 1}, 8), slices.Repeat([]int{1, 0}, 8))},
		{grammarOf(1, 2, 0, prod(0, slices.Repeat(syms(non(1)), 6)...), prod(1, term(0)), prod(1, term(0), term(0)), prod(1)), make([]int, 7)},
	} {
		heldOfForest(t, c.g, text(c.w...), seen)
	}
	seenAll(t, seen, 1, "refused", "loops", "one", "ambiguous")
}

// P24.1: a token out of range stands nowhere; the third example.
func TestStrangers(t *testing.T) {
	for _, g := range []api.Grammar{sums(), grammarOf(2, 1, 0, prod(0, term(1), term(0), term(1)))} {
		for _, n := range []int{-1, 2, 3, 64, 99, math.MaxInt, math.MinInt} {
			for at := range 3 {
				w := text(1, 0, 1)
				w[at].Kind = n
				if f, e := glr.Forest(g, w); len(f.Nodes) != 0 || e != api.OK {
					t.Error("Forest:", w, f, e)
				}
				if b, e := glr.Accepts(g, w); b || e != api.OK {
					t.Error("Accepts:", w, b, e)
				}
			}
		}
	}
	// With 65 tokens it is too long, whatever they are.
	if _, e := glr.Forest(sums(), text(slices.Repeat([]int{99}, 65)...)); e != api.ErrLong {
		t.Error("Forest:", e)
	}
}

// P24.1: a text of no tokens.
func TestNothing(t *testing.T) {
	for _, w := range [][]api.Token{nil, {}} {
		f, e := glr.Forest(grammarOf(1, 2, 0, prod(0, non(1), non(1)), prod(1), prod(1, term(0))), w)
		if e != api.OK || !sameForest(f, forestOf(nodeOf(non(0), 0, 0, []int{0, 1, 1}), nodeOf(non(1), 0, 0, []int{1}))) {
			t.Error("Forest:", f, e)
		}
		if f, e := glr.Forest(sums(), w); e != api.OK || f.Nodes != nil {
			t.Error("Forest:", f, e)
		}
		if b, e := glr.Accepts(sums(), w); e != api.OK || b {
			t.Error("Accepts:", b, e)
		}
	}
}

// P24.1: 64 tokens are not too many, 65 are.
func TestLength(t *testing.T) {
	right := grammarOf(1, 1, 0, prod(0, term(0), non(0)), prod(0))
	left := grammarOf(1, 1, 0, prod(0, non(0), term(0)), prod(0, term(0)))
	for name, c := range map[string]struct {
		g     api.Grammar
		nodes int
	}{"right": {right, 129}, "left": {left, 128}} {
		w := make([]api.Token, 64)
		f, e := glr.Forest(c.g, w)
		if e != api.OK || len(f.Nodes) != c.nodes {
			t.Error("Forest:", name, len(f.Nodes), e)
		}
		if l, e := glr.Trees(c.g, f, w, 1); e != api.OK || len(l) != 1 || len(trees.Yield(l[0])) != 64 {
			t.Error("Trees:", name, e)
		}
		if b, e := glr.Accepts(c.g, w); e != api.OK || !b {
			t.Error("Accepts:", name, b, e)
		}
		w = make([]api.Token, 65)
		if f, e := glr.Forest(c.g, w); e != api.ErrLong || f.Nodes != nil {
			t.Error("Forest:", name, f, e)
		}
		if b, e := glr.Accepts(c.g, w); e != api.ErrLong || b {
			t.Error("Accepts:", name, b, e)
		}
	}
}

// wrong is grammars that may not be.
func wrong(t *testing.T) []api.Grammar {
	t.Helper()
	changed := func(change func(g *api.Grammar)) api.Grammar {
		g := grammarOf(1, 1, 0, prod(0, non(0)), prod(0, term(0)))
		change(&g)
		return g
	}
	all := []api.Grammar{
		{},
		changed(func(g *api.Grammar) { g.Terms = nil }),
		changed(func(g *api.Grammar) { g.Nons = nil }),
		changed(func(g *api.Grammar) { g.Terms = numbered("t", 65) }),
		changed(func(g *api.Grammar) { g.Terms[0] = "" }),
		changed(func(g *api.Grammar) { g.Start = 1 }),
		changed(func(g *api.Grammar) { g.Start = -1 }),
		changed(func(g *api.Grammar) { g.Prods = nil }),
		changed(func(g *api.Grammar) { g.Prods[1].Left = 7 }),
		changed(func(g *api.Grammar) { g.Prods[1].Right[0].N = 1 }),
		changed(func(g *api.Grammar) { g.Prods[1].Right[0].N = math.MinInt }),
		changed(func(g *api.Grammar) { g.Prods[1].Right[0].Kind = 3 }),
		changed(func(g *api.Grammar) { g.Prods[1].Right = slices.Repeat(syms(term(0)), 17) }),
		changed(func(g *api.Grammar) { g.Prods[1].Right = syms(non(0)) }),
		changed(func(g *api.Grammar) { g.Prods[1].Prec = 1 }),
		changed(func(g *api.Grammar) { g.Levels = make([]api.Level, 1) }),
	}
	for _, g := range all {
		if e, _ := grammar.Check(g); e == api.OK {
			t.Fatal("no fault:", g)
		}
	}
	return all
}

// P24.1 to P24.5: the error of what is no grammar goes ahead of all others, and nothing stands beside it.
func TestWrongGrammars(t *testing.T) {
	for _, g := range wrong(t) {
		want, _ := grammar.Check(g)
		for _, w := range [][]api.Token{nil, make([]api.Token, 65)} {
			if f, e := glr.Forest(g, w); e != want || f.Nodes != nil {
				t.Error("Forest:", g, f, e)
			}
			if b, e := glr.Accepts(g, w); e != want || b {
				t.Error("Accepts:", g, b, e)
			}
		}
		for _, f := range []api.Forest{{}, forestOf(nodeOf(non(0), 0, 1, []int{1, 1}), nodeOf(term(0), 0, 1)), forestOf(nodeOf(non(0), 1, 0), api.ForestNode{})} {
			if e, at := glr.Check(g, f); e != want || at != 0 {
				t.Error("Check:", g, e, at)
			}
			if l, e := glr.Trees(g, f, nil, 0); e != want || l != nil {
				t.Error("Trees:", g, l, e)
			}
			if b, e := glr.Contains(g, f, api.Tree{Prod: -2}); e != want || b {
				t.Error("Contains:", g, b, e)
			}
			if s, e := glr.Print(g, f); e != want || s != "" {
				t.Error("Print:", g, s, e)
			}
		}
	}
}
