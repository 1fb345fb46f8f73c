package glr_test

import (
	"math"
	"math/big"
	"math/rand"
	"runtime/debug"
	"slices"
	"testing"

	"gantry/api"
	"gantry/earley"
	"gantry/glr"
	"gantry/sentence"
	"gantry/trees"
)

// rows is a grammar whose start gives rows of lists of t0, and E's, which are nothing, between: n1 is a list, n2 is E.
func rows(right ...[]api.Sym) api.Grammar {
	g := grammarOf(1, 3, 0, prod(1, term(0)), prod(1, term(0), non(1)), prod(2))
	for _, l := range right {
		g.Prods = append(g.Prods, prod(0, l...))
	}
	return g
}

// rowOf is that many lists, with so many E's ahead of each and, at last, behind all.
func rowOf(gaps ...int) []api.Sym {
	var l []api.Sym
	for i, n := range gaps {
		if i > 0 {
			l = append(l, non(1))
		}
		l = append(l, slices.Repeat(syms(non(2)), n)...)
	}
	return l
}

// P24.1: as many alternatives as there may be, all nodes together, and one more.
func TestAlternatives(t *testing.T) {
	// Of 64 tokens: so many lists in a row have their ends in 1, 63, 1953 or 39711 ways, whatever E's are between.
	all := [][]api.Sym{rowOf(0, 0), rowOf(0, 0, 0), rowOf(0, 0, 0, 0), rowOf(0, 0, 0, 0, 0), rowOf(1, 0), rowOf(0, 1), rowOf(0, 1, 0)}
	total := 1 + 63 + 1953 + 39711 + 1 + 1 + 63
	total += 64*65/2 + 65 // each list by itself, and each E
	for i := 1; total+1953 <= api.MaxAlts; i++ {
		all = append(all, rowOf(i, 0, 0, 0))
		total += 1953
	}
	for i := 1; total+63 <= api.MaxAlts; i++ {
		all = append(all, rowOf(i, 0, 0))
		total += 63
	}
	for i := 2; total < api.MaxAlts; i++ {
		all = append(all, rowOf(1+i%7, 1+i/7))
		total++
	}
	w := make([]api.Token, 64)
	f, e := glr.Forest(rows(all...), w)
	if e != api.OK || altsOf(f) != api.MaxAlts || len(f.Nodes) != 1+64*65/2+65+64 {
		t.Fatal("P24.1: 65536:", e, altsOf(f), len(f.Nodes))
	}
	if e, n := glr.Check(rows(all...), f); e != api.OK || n != len(f.Nodes) {
		t.Error("P24.8: Check:", e, n)
	}
	if n, e := glr.Count(f, math.MaxInt); e != api.OK || n != len(f.Nodes[0].Alts) {
		t.Error("P24.3: Count:", n, e)
	}
	if l, e := glr.Trees(rows(all...), f, w, 4096); e != api.ErrMany || l != nil {
		t.Error("P24.4: Trees:", len(l), e)
	}
	g := rows(append(all, rowOf(9, 5))...)
	if f, e := glr.Forest(g, w); e != api.ErrMany || f.Nodes != nil {
		t.Error("P24.1: 65537:", e, altsOf(f))
	}
	if b, e := glr.Accepts(g, w); e != api.OK || !b {
		t.Error("P24.1: Accepts:", b, e)
	}
}

// greatest has as many symbols and productions, and as long ones, as there may be; what is more is up to the right sides.
func greatest(right func(i, dot int) api.Sym) api.Grammar {
	g := grammarOf(64, 64, 63)
	for n := range 64 {
		g.Prods = append(g.Prods, prod(n, term(n)))
	}
	for i := 0; len(g.Prods) < api.MaxProds; i++ {
		p := prod(i % 64)
		for dot := range 16 {
			p.Right = append(p.Right, right(i, dot))
		}
		g.Prods = withProd(g.Prods, p)
	}
	return g
}

// P24.1: grammars at all limits, with far more alternatives than there may be: that is soon told.
func TestFarTooMany(t *testing.T) {
	all := greatest(func(i, dot int) api.Sym { return non((i*7 + dot*(11+i/64)) % 64) })
	for n := range 64 {
		all.Prods[n].Right[0].N = 0
	}
	empty := all
	empty.Prods = slices.Clone(all.Prods)
	for i := range 20 {
		empty.Prods[200+i].Right = nil
	}
	for n, g := range []api.Grammar{all, empty} {
		for _, length := range []int{60, 61, 64} {
			w := make([]api.Token, length)
			b, e := glr.Accepts(g, w)
			if want := must(earley.Accepts(g, make([]int, length))); b != want || e != api.OK {
				t.Error("Accepts:", n, length, b, e, want)
			}
			if f, e := glr.Forest(g, w); b && e != api.ErrMany || !b && e != api.OK || f.Nodes != nil {
				t.Error("Forest:", n, length, len(f.Nodes), e)
			}
		}
		if b := must(glr.Accepts(g, make([]api.Token, 61))); !b {
			t.Error("61 tokens:", n)
		}
	}
}

// P24.1, P24.6: a grammar at all limits, and texts with not too many alternatives.
func TestGreatest(t *testing.T) {
	g := greatest(func(i, dot int) api.Sym {
		if dot%5 == 2 {
			return term((i + dot) % 64)
		}
		return non((i*7 + dot*(11+i/64)) % 64)
	})
	r := rand.New(rand.NewSource(2461))
	seen := map[string]int{}
	for range 60 {
		x, found := anyTree(r, g, non(63), 4)
		if w := trees.Yield(x); found && len(w) <= 64 {
			heldOfSentence(t, g, w, seen)
			w[r.Intn(len(w))].Kind = r.Intn(64)
			heldOfSentence(t, g, w, seen)
		}
	}
	seenAll(t, seen, 5, "refused", "one")
}

// P24.1, P24.3: 64 nonterminals that give one another, and nothing: all of one part are in one class.
func TestAllLoop(t *testing.T) {
	g := grammarOf(1, 64, 0, prod(63), prod(63, term(0)))
	for n := range 64 {
		g.Prods = append(g.Prods, prod(n, non((n+1)%64)), prod(n, non((n+5)%64), non((n+11)%64)))
	}
	for _, length := range []int{0, 1, 6} {
		f, e := glr.Forest(g, make([]api.Token, length))
		if parts := (length + 1) * (length + 2) / 2; e != api.OK || len(f.Nodes) != 64*parts+length {
			t.Fatal(length, e, len(f.Nodes))
		}
		if l := glr.Loops(f); len(l) != len(f.Nodes)-length {
			t.Error("Loops:", length, len(l), len(f.Nodes))
		}
		if n, e := glr.Count(f, math.MaxInt); n != math.MaxInt || e != api.OK {
			t.Error("Count:", length, n, e)
		}
		if e, n := glr.Check(g, f); e != api.OK || n != len(f.Nodes) {
			t.Error("Check:", length, e, n)
		}
	}
}

// P24.3: Catalan's numbers, as far as they go, and where they are more than fit.
func TestCatalan(t *testing.T) {
	g := grammarOf(1, 1, 0, prod(0, non(0), non(0)), prod(0, term(0)))
	for n := 1; n <= 64; n++ {
		want := new(big.Int).Binomial(int64(2*n-2), int64(n-1))
		want.Div(want, big.NewInt(int64(n)))
		if !want.IsInt64() {
			want.SetInt64(math.MaxInt)
		}
		f, e := glr.Forest(g, make([]api.Token, n))
		if c, e2 := glr.Count(f, math.MaxInt); e != api.OK || e2 != api.OK || int64(c) != want.Int64() {
			t.Error(n, c, e, e2, want)
		}
	}
}

// long is how many tokens the long texts have.
const long = 200000

// onSmallStack runs what must not go down by recursion.
func onSmallStack(do func()) {
	defer debug.SetMaxStack(debug.SetMaxStack(1 << 20))
	done := make(chan struct{})
	go func() {
		do()
		close(done)
	}()
	<-done
}

// longRight is a forest of as many tokens as are long, by n0 -> t0 n0 and nothing.
func longRight() (api.Grammar, api.Forest) {
	var f api.Forest
	for i := range long {
		if i > 0 {
			f.Nodes = append(f.Nodes, nodeOf(term(0), i-1, i))
		}
		f.Nodes = append(f.Nodes, nodeOf(non(0), i, long, []int{0, 2*i + 1, 2*i + 2}))
	}
	f.Nodes = append(f.Nodes, nodeOf(term(0), long-1, long), nodeOf(non(0), long, long, []int{1}))
	return grammarOf(1, 1, 0, prod(0, term(0), non(0)), prod(0)), f
}

// longLeft is one by n0 -> n0 t0 and nothing.
func longLeft() (api.Grammar, api.Forest) {
	f := forestOf(nodeOf(non(0), 0, long, []int{0, 1, 2}))
	for i := 1; i < long; i++ {
		f.Nodes = append(f.Nodes, nodeOf(non(0), 0, long-i, []int{0, 2*i + 1, 2*i + 2}), nodeOf(term(0), long-i, long-i+1))
	}
	f.Nodes = append(f.Nodes, nodeOf(non(0), 0, 0, []int{1}), nodeOf(term(0), 0, 1))
	return grammarOf(1, 1, 0, prod(0, non(0), term(0)), prod(0)), f
}

// P24.2 to P24.5, P5 of DOC.md: forests of anybody may be long, and their trees deep.
func TestLong(t *testing.T) {
	onSmallStack(func() {
		for goesOn, forest := range []func() (api.Grammar, api.Forest){longLeft, longRight} {
			g, f := forest()
			w := make([]api.Token, long)
			if e, n := glr.Check(g, f); e != api.OK || n != 2*long+1 {
				t.Fatal("Check:", goesOn, e, n)
			}
			if n, e := glr.Count(f, 9); n != 1 || e != api.OK {
				t.Error("Count:", goesOn, n, e)
			}
			if l := glr.Loops(f); l != nil {
				t.Error("Loops:", goesOn, len(l))
			}
			l, e := glr.Trees(g, f, w, 1)
			if e != api.OK || len(l) != 1 {
				t.Fatal("Trees:", goesOn, e)
			}
			if e, n := trees.Check(g, l[0]); e != api.OK || n != 2*long+1 || len(trees.Yield(l[0])) != long {
				t.Error("Trees:", goesOn, e, n)
			}
			if b, e := glr.Contains(g, f, l[0]); !b || e != api.OK {
				t.Error("Contains:", goesOn, b, e)
			}
			if b, e := glr.Contains(g, f, l[0].Kids[goesOn]); b || e != api.OK {
				t.Error("Contains:", goesOn, b, e)
			}
			if s, e := glr.Print(g, f); e != api.OK || len(s) < 10*long {
				t.Error("Print:", goesOn, len(s), e)
			}
		}
	})
}

// P24.3: a ring of very many nodes, with and without a way out; very many alternatives and kids.
func TestGreatRings(t *testing.T) {
	onSmallStack(func() {
		f := api.Forest{Nodes: make([]api.ForestNode, long)}
		for n := range f.Nodes {
			f.Nodes[n].Alts = []api.ForestAlt{{Kids: []int{(n + 1) % long}}}
		}
		if l := glr.Loops(f); !slices.Equal(l, below(long)) {
			t.Error("Loops:", len(l))
		}
		if n, e := glr.Count(f, 9); n != 0 || e != api.OK {
			t.Error("Count:", n, e)
		}
		f.Nodes[long/2].Alts = append(f.Nodes[long/2].Alts, api.ForestAlt{Prod: 1})
		if n, e := glr.Count(f, 9); n != 9 || e != api.OK {
			t.Error("Count:", n, e)
		}
		f.Nodes[long-1].Alts = nil
		if n, e := glr.Count(f, 9); n != 1 || e != api.OK {
			t.Error("Count:", n, e)
		}
		if l := glr.Loops(f); l != nil {
			t.Error("Loops:", len(l))
		}
		f.Nodes[0].Alts = make([]api.ForestAlt, 3*long)
		f.Nodes[1].Alts[0].Kids = slices.Repeat([]int{0}, 3*long)
		if n, e := glr.Count(f, math.MaxInt); n != 3*long || e != api.OK {
			t.Error("Count:", n, e)
		}
		if l := glr.Ambiguous(f); !slices.Equal(l, []int{0, long / 2}) {
			t.Error("Ambiguous:", l)
		}
	})
}

// P24.4: a tree whose kids are one node again and again, in a deep loop that was unrolled.
func TestUnrolled(t *testing.T) {
	onSmallStack(func() {
		g := doubles()
		f := must(glr.Forest(g, text(0)))
		x := node(1, leaf(0))
		for i := range long {
			if i%2 == 0 {
				x = node(0, x, node(2))
			} else {
				x = node(0, node(2), x)
			}
		}
		if b, e := glr.Contains(g, f, x); !b || e != api.OK {
			t.Error("Contains:", b, e)
		}
		x = node(0, x, node(1, leaf(0)))
		if b, e := glr.Contains(g, f, x); b || e != api.OK {
			t.Error("Contains:", b, e)
		}
	})
}

// P24.4: 4096 trees of a long text.
func TestManyLongTrees(t *testing.T) {
	// Twelve of one or two tokens, then a list of all that are left.
	g := grammarOf(1, 3, 0, prod(0, append(slices.Repeat(syms(non(1)), 12), non(2))...),
		prod(1, term(0)), prod(1, term(0), term(0)), prod(2, term(0), non(2)), prod(2, term(0)))
	w := make([]api.Token, 64)
	n := must(sentence.Count(g, 0, make([]int, 64)))
	f := must(glr.Forest(g, w))
	if l, e := glr.Trees(g, f, w, 4096); n != 4096 || e != api.OK || len(l) != 4096 {
		t.Error("Trees:", n, len(l), e)
	} else if want := must(sentence.Trees(g, 0, make([]int, 64), 4096)); !sameTrees(l, want) {
		t.Error("P24.6: another order")
	}
}
