package earley_test

import (
	"math/rand"
	"runtime/debug"
	"slices"
	"testing"

	"gantry/api"
	"gantry/earley"
	"gantry/first"
	"gantry/sentence"
	"gantry/trees"
)

// long is how many terminals the long texts have, or twice as many.
const long = 100000

// onSmallStack runs what must not go down by recursion.
func onSmallStack(do func()) {
	defer debug.SetMaxStack(debug.SetMaxStack(1 << 20))
	done := make(chan struct{})
	go func() {
		do()
		close(done)
	}()
	<-done
}

// heldOfLong asks all of a text that has one tree, a very deep one, and of what becomes of it without its last terminal, and with one more.
func heldOfLong(t *testing.T, name string, g api.Grammar, w []int, prods []int, next []int) {
	t.Helper()
	if b, e := earley.Accepts(g, w); e != api.OK || !b {
		t.Error("Accepts:", name, b, e)
	}
	if n, e := earley.Count(g, w); e != api.OK || n != 1 {
		t.Error("Count:", name, n, e)
	}
	if x, e := earley.Tree(g, w); e != api.OK || !slices.Equal(trees.Left(x), prods) {
		t.Error("Tree:", name, e)
	}
	if l, e := earley.Next(g, w); e != api.OK || !slices.Equal(l, next) {
		t.Error("Next:", name, l, e)
	}
	if at, dead, e := earley.Dead(g, slices.Concat(w, []int{9, 0})); e != api.OK || at != len(w) || !dead {
		t.Error("Dead:", name, at, dead, e)
	}
}

// P23.1, P23.2, P5 of DOC.md: texts may be as long, and their trees as deep, as they like.
func TestLongTexts(t *testing.T) {
	onSmallStack(func() {
		x := make([]int, long)
		heldOfLong(t, "left", grammarOf(1, 1, 0, prod(0, non(0), term(0)), prod(0)), x, append(slices.Clone(x), 1), []int{0, 1})
		heldOfLong(t, "right", grammarOf(1, 1, 0, prod(0, term(0), non(0)), prod(0, term(0))), x, append(slices.Clone(x[1:]), 1), []int{0, 1})
		nest := grammarOf(3, 1, 0, prod(0, term(0), non(0), term(1)), prod(0, term(2)))
		w := slices.Concat(x, []int{2}, slices.Repeat([]int{1}, long))
		heldOfLong(t, "nest", nest, w, append(slices.Clone(x), 1), []int{3})
		if at, dead, e := earley.Dead(nest, w[:2*long]); e != api.OK || at != 2*long || !dead {
			t.Error("Dead: an end that is missing:", at, dead, e)
		}
		if at, dead, e := earley.Dead(nest, append(w, 1)); e != api.OK || at != 2*long+1 || !dead {
			t.Error("Dead: an end too many:", at, dead, e)
		}
		if l, e := earley.Next(nest, w[:2*long]); e != api.OK || !slices.Equal(l, []int{1}) {
			t.Error("Next:", l, e)
		}
	})
}

// P23.1: the sets of a long text.
func TestLongChart(t *testing.T) {
	c, e := earley.Chart(grammarOf(1, 1, 0, prod(0, non(0), term(0)), prod(0)), make([]int, long))
	if e != api.OK || len(c) != long+1 {
		t.Fatal(len(c), e)
	}
	if !slices.Equal(c[0], []earley.State{{-1, 0, 0}, {-1, 1, 0}, {0, 0, 0}, {0, 1, 0}, {1, 0, 0}}) {
		t.Error(c[0])
	}
	for i, set := range c[1:] {
		if !slices.Equal(set, []earley.State{{-1, 1, 0}, {0, 1, 0}, {0, 2, 0}}) {
			t.Fatal(i+1, set)
		}
	}
	const n = 1500
	c, e = earley.Chart(grammarOf(1, 1, 0, prod(0, term(0), non(0)), prod(0)), make([]int, n))
	if e != api.OK || len(c) != n+1 {
		t.Fatal(len(c), e)
	}
	for i, set := range c {
		// Each that began ahead waits behind the last terminal alone, but has ended here, too.
		var want []earley.State
		if i == 0 {
			want = append(want, earley.State{Prod: -1, Dot: 0})
		}
		want = append(want, earley.State{Prod: -1, Dot: 1}, earley.State{Prod: 0, Dot: 0, From: i})
		if i > 0 {
			want = append(want, earley.State{Prod: 0, Dot: 1, From: i - 1})
		}
		for k := range i {
			want = append(want, earley.State{Prod: 0, Dot: 2, From: k})
		}
		if want = append(want, earley.State{Prod: 1, Dot: 0, From: i}); !slices.Equal(set, want) {
			t.Fatal(i, set)
		}
	}
}

// P23.2: long texts with very many trees: each time the first part is as short as it can be.
func TestLongAmbiguous(t *testing.T) {
	const n = 400
	w := append(slices.Repeat([]int{1, 0}, n), 1)
	if c, e := earley.Count(sums(), w); e != api.OK || c != 4097 {
		t.Error("Count:", c, e)
	}
	var want []int
	for range n {
		want = append(want, 0, 1)
	}
	if x, e := earley.Tree(sums(), w); e != api.OK || !slices.Equal(trees.Left(x), append(want, 1)) {
		t.Error("Tree:", e)
	}
	if at, dead, e := earley.Dead(sums(), slices.Insert(w, n, 2)); e != api.OK || at != n || !dead {
		t.Error("Dead:", at, dead, e)
	}
}

// greatest has as many symbols and productions, and as long ones, as there may be.
func greatest() api.Grammar {
	g := grammarOf(64, 64, 63)
	for n := range 64 {
		g.Prods = append(g.Prods, prod(n, term(n)))
	}
	for i := 0; len(g.Prods) < api.MaxProds; i++ {
		p := prod(i % 64)
		for dot := range 16 {
			if dot%5 == 2 {
				p.Right = append(p.Right, term((i+dot)%64))
			} else {
				p.Right = append(p.Right, non((i*7+dot*(11+i/64))%64))
			}
		}
		g.Prods = withProd(g.Prods, p)
	}
	return g
}

// P23.1 to P23.3: a grammar at all limits.
func TestGreatest(t *testing.T) {
	g := greatest()
	r := rand.New(rand.NewSource(235))
	seen := map[string]int{}
	for range 20 {
		w := anyText(r, g, 3+r.Intn(40))
		if len(w) < 63 {
			heldOfSentence(t, g, w, seen)
			heldOfSentence(t, g, changed(r, g, w), seen)
		}
	}
	if n, e := sentence.Lengths(g); e != api.OK || n[63] != 1 {
		t.Fatal(n, e)
	}
	// Of a text of one terminal all begins at its ahead, and what stands behind it is what may begin with it.
	c, e := earley.Chart(g, []int{63})
	if e != api.OK || len(c) != 2 || !slices.Equal(c[1], modelChart(g, []int{63})[1]) {
		t.Error("Chart:", e)
	}
	if l := must(earley.Next(g, nil)); !slices.Equal(l, must(first.First(g))[63]) {
		t.Error("Next:", l)
	}
	seenAll(t, seen, 5, "text")
}
