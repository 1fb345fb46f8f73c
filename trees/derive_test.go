package trees_test

import (
	"fmt"
	"math"
	"math/rand"
	"slices"
	"testing"

	"gantry/api"
	"gantry/trees"
)

// eachList goes over all lists of at most so many numbers from low on below high.
func eachList(low, high, most int, do func([]int)) {
	lists := [][]int{nil}
	for {
		for _, l := range lists {
			do(slices.Clone(l))
		}
		if most == 0 {
			return
		}
		most--
		var next [][]int
		for _, l := range lists {
			for n := low; n < high; n++ {
				next = append(next, append(slices.Clone(l), n))
			}
		}
		lists = next
	}
}

// words are tokens of the kinds, each with a text of its own.
func words(kinds []int) []api.Token {
	var w []api.Token
	for i, kind := range kinds {
		w = append(w, api.Token{Kind: kind, Text: fmt.Sprint("word ", i)})
	}
	return w
}

func kindsOf(w []api.Token) []int {
	var l []int
	for _, tok := range w {
		l = append(l, tok.Kind)
	}
	return l
}

// worded is the tree with these words in its leaves.
func worded(t api.Tree, w []api.Token) api.Tree {
	read := 0
	var put func(api.Tree) api.Tree
	put = func(x api.Tree) api.Tree {
		if x.Prod == -1 {
			read++
			return api.Tree{Prod: -1, Tok: w[read-1]}
		}
		out := node(x.Prod)
		for _, kid := range x.Kids {
			out.Kids = append(out.Kids, put(kid))
		}
		return out
	}
	return put(t)
}

// known are all trees of a grammar with at most so many nodes, by a derivation and the kinds of their words.
func known(t *testing.T, g api.Grammar, nodes int, derivation func(api.Tree) []int) map[string]api.Tree {
	all := map[string]api.Tree{}
	for n := range g.Nons {
		for count := 1; count <= nodes; count++ {
			for _, x := range treesWith(g, non(n), count) {
				key := fmt.Sprint(derivation(x), kindsOf(modelYield(x)))
				if other, there := all[key]; there {
					t.Fatal("P8.6: two trees have one derivation and one yield:", g.Prods, x, other)
				}
				all[key] = x
			}
		}
	}
	return all
}

// P8.3, P8.6: every list of at most five productions and every text of at most four words, of several grammars: the tree that there is among all trees, or the fault.
func TestSmallDerivations(t *testing.T) {
	for _, g := range smallGrammars() {
		lefts, rights := known(t, g, 5, modelLeft), known(t, g, 5, modelRight)
		found := 0
		eachList(0, len(g.Prods), 5, func(l []int) {
			eachList(0, len(g.Terms)+1, 4, func(kinds []int) {
				w := words(kinds)
				heldLeft(t, g, l, w, lefts)
				found += heldRight(t, g, l, w, rights)
			})
		})
		if found < 4 {
			t.Error("too few trees:", g.Prods, found)
		}
	}
}

func heldLeft(t *testing.T, g api.Grammar, l []int, w []api.Token, all map[string]api.Tree) {
	t.Helper()
	got, e, at := trees.FromLeft(g, l, w)
	want, there := all[fmt.Sprint(l, kindsOf(w))]
	if there {
		if e != api.OK || at != 0 || !modelSame(got, worded(want, w)) {
			t.Fatalf("%v: FromLeft of %v, %v: %v, %v, %d, want %v", g.Prods, l, w, got, e, at, want)
		}
		return
	}
	fault, place := modelFault(g, l, w)
	if fault == api.OK || e != fault || at != place || !isZero(got) {
		t.Fatalf("%v: FromLeft of %v, %v: %v, %v, %d, want %v, %d", g.Prods, l, w, got, e, at, fault, place)
	}
}

// heldRight answers 1, if there is a tree.
func heldRight(t *testing.T, g api.Grammar, l []int, w []api.Token, all map[string]api.Tree) int {
	t.Helper()
	got, e, at := trees.FromRight(g, l, w)
	want, there := all[fmt.Sprint(l, kindsOf(w))]
	if there {
		if e != api.OK || at != 0 || !modelSame(got, worded(want, w)) {
			t.Fatalf("%v: FromRight of %v, %v: %v, %v, %d, want %v", g.Prods, l, w, got, e, at, want)
		}
		return 1
	}
	fault, place := modelListed(g, l)
	if fault == api.OK {
		fault, place = api.ErrTree, 0
	}
	if e != fault || at != place || !isZero(got) {
		t.Fatalf("%v: FromRight of %v, %v: %v, %v, %d, want %v, %d", g.Prods, l, w, got, e, at, fault, place)
	}
	return 0
}

// P8.3: numbers that are no production's, ahead of all that the derivation tells; the first one's place.
func TestNoSuchProduction(t *testing.T) {
	g := checked()
	eachList(-2, len(g.Prods)+2, 3, func(l []int) {
		want, place := modelListed(g, l)
		if want == api.OK {
			return
		}
		for _, w := range [][]api.Token{nil, words([]int{0, 1}), words([]int{9})} {
			if x, e, at := trees.FromLeft(g, l, w); e != want || at != place || !isZero(x) {
				t.Fatal("FromLeft:", l, w, x, e, at)
			}
			if x, e, at := trees.FromRight(g, l, w); e != want || at != place || !isZero(x) {
				t.Fatal("FromRight:", l, w, x, e, at)
			}
		}
	})
	for _, n := range []int{math.MinInt, math.MaxInt} {
		if _, e, at := trees.FromLeft(g, []int{1, 0, n}, nil); e != api.ErrRange || at != 2 {
			t.Error("FromLeft:", n, e, at)
		}
		if _, e, at := trees.FromRight(g, []int{1, 0, n}, nil); e != api.ErrRange || at != 2 {
			t.Error("FromRight:", n, e, at)
		}
	}
}

// P8.3: the faults of a leftmost derivation, by hand.
func TestFromLeftByHand(t *testing.T) {
	g := checked() // 0: S a S; 1: S b; 2: A; 3: S A S b
	for _, c := range []struct {
		l     []int
		kinds []int
		e     api.Errno
		at    int
	}{
		{[]int{2}, nil, api.OK, 0}, // the root need not be the start
		{[]int{2}, []int{0}, api.ErrTail, 0},
		{[]int{2, 2}, []int{0}, api.ErrTree, 1}, // l goes on ahead of w
		{[]int{0, 0, 1}, []int{0, 0, 1}, api.OK, 0},
		{[]int{0, 0, 1}, []int{0, 1, 1}, api.ErrLeaf, 1},
		{[]int{0, 0, 1}, []int{0, 0}, api.ErrLeaf, 2},
		{[]int{0, 0}, []int{0, 0}, api.ErrShort, 2},
		{[]int{0, 0}, []int{0}, api.ErrLeaf, 1}, // the terminal is next, ahead of the nonterminal behind it
		{[]int{0, 2}, []int{0, 1}, api.ErrTree, 1},
		{[]int{0, 2}, []int{1, 1}, api.ErrLeaf, 0},
		{[]int{3, 2, 1}, []int{1, 1}, api.OK, 0},
		{[]int{3, 1, 1}, []int{1, 1}, api.ErrTree, 1},
		{[]int{3, 2, 1}, []int{1, 0}, api.ErrLeaf, 1},
		{[]int{3, 2, 1}, []int{1, 1, 1}, api.ErrTail, 2},
		{[]int{3, 2, 1, 1}, []int{1, 1, 1}, api.ErrTree, 3},
		{[]int{1}, []int{-1}, api.ErrLeaf, 0},
		{[]int{1}, []int{math.MaxInt}, api.ErrLeaf, 0},
	} {
		if _, e, at := trees.FromLeft(g, c.l, words(c.kinds)); e != c.e || at != c.at {
			t.Errorf("FromLeft of %v, %v: %v, %d, want %v, %d", c.l, c.kinds, e, at, c.e, c.at)
		}
	}
}

// P8.6: of a tree with a node at its root both ways back lead to it; with one word or production less, more or turned to what the model says.
func TestThereAndBackByDerivations(t *testing.T) {
	r := rand.New(rand.NewSource(860))
	asked, empty := 0, 0
	for range 1500 {
		g := anyGrammar(r, 3, 4, 9, 4)
		for _, x := range anyTrees(r, g, 4) {
			w := trees.Yield(x)
			asked++
			if len(w) == 0 {
				empty++
			}
			if got, e, at := trees.FromLeft(g, trees.Left(x), w); e != api.OK || at != 0 || !modelSame(got, x) {
				t.Fatal("FromLeft:", g.Prods, x, got, e, at)
			}
			if got, e, at := trees.FromRight(g, trees.Right(x), w); e != api.OK || at != 0 || !modelSame(got, x) {
				t.Fatal("FromRight:", g.Prods, x, got, e, at)
			}
			l := turnedList(r, modelLeft(x), len(g.Prods))
			w = words(turnedList(r, kindsOf(w), len(g.Terms)))
			got, e, at := trees.FromLeft(g, l, w)
			want, place := modelFault(g, l, w)
			if e != want || at != place || e != api.OK && !isZero(got) {
				t.Fatal("FromLeft:", g.Prods, l, w, got, e, at, want, place)
			}
			if e == api.OK && (!slices.Equal(modelLeft(got), l) || !slices.Equal(modelYield(got), w)) {
				t.Fatal("FromLeft:", g.Prods, l, w, got)
			}
		}
	}
	if asked < 2000 || empty < 100 {
		t.Error("too few:", asked, empty)
	}
}

// turnedList has one number out, in or another one, or none of it.
func turnedList(r *rand.Rand, l []int, below int) []int {
	l = slices.Clone(l)
	at := r.Intn(len(l) + 1)
	switch r.Intn(4) {
	case 0:
		return slices.Insert(l, at, r.Intn(below))
	case 1:
		if at < len(l) {
			return slices.Delete(l, at, at+1)
		}
	case 2:
		if at < len(l) {
			l[at] = r.Intn(below)
		}
	}
	return l
}
