package trees_test

import (
	"math"
	"math/rand"
	"slices"
	"testing"

	"gantry/api"
	"gantry/grammar"
	"gantry/notation"
	"gantry/trees"
)

func isZero(t api.Tree) bool { return modelSame(t, api.Tree{}) }

// checked is the grammar that small trees are checked by: right sides of no symbol, one, two and three.
func checked() api.Grammar {
	return grammarOf(2, 2, 0, prod(0, term(0), non(0)), prod(0, term(1)), prod(1), prod(0, non(1), non(0), term(1)))
}

// heldAgainst asks all calls of one tree, and the models.
func heldAgainst(t *testing.T, g api.Grammar, x api.Tree) api.Errno {
	t.Helper()
	e, at := trees.Check(g, x)
	if want, place := modelCheck(g, x); e != want || at != place {
		t.Fatalf("Check of %v: %v, %d, want %v, %d", x, e, at, want, place)
	}
	s, f := trees.Root(g, x)
	if want, wantE := modelRoot(g, x); s != want || f != wantE {
		t.Fatalf("Root of %v: %v, %v, want %v, %v", x, s, f, want, wantE)
	}
	text, f := trees.Print(g, x)
	if f != e || e != api.OK && text != "" || e == api.OK && text != modelPrint(g, x) {
		t.Fatalf("Print of %v: %q, %v", x, text, f)
	}
	heldPlain(t, x)
	return e
}

// heldPlain asks the calls of any tree.
func heldPlain(t *testing.T, x api.Tree) {
	t.Helper()
	w := modelYield(x)
	if got := trees.Yield(x); !slices.Equal(got, w) {
		t.Fatalf("Yield of %v: %v, want %v", x, got, w)
	}
	places := placesOf(x)
	if p, l, h := trees.Measure(x); p != len(places) || l != len(w) || h != modelHeight(x) {
		t.Fatalf("Measure of %v: %d, %d, %d, want %d, %d, %d", x, p, l, h, len(places), len(w), modelHeight(x))
	}
	if got := trees.Left(x); !slices.Equal(got, modelLeft(x)) {
		t.Fatalf("Left of %v: %v", x, got)
	}
	if got := trees.Right(x); !slices.Equal(got, modelRight(x)) {
		t.Fatalf("Right of %v: %v", x, got)
	}
	for i, p := range places {
		if got, e := trees.At(x, i); e != api.OK || !modelSame(got, p.tree) {
			t.Fatalf("At %d of %v: %v, %v", i, x, got, e)
		}
	}
}

// P8.1, P8.2, P8.3, P8.5: every tree of at most three places, whatever stands in them.
func TestSmallTrees(t *testing.T) {
	g := checked()
	answers := map[api.Errno]int{}
	for places := 1; places <= 3; places++ {
		for _, shape := range shapes(places) {
			eachFilled(shape, strangeFillings(), func(x api.Tree) { answers[heldAgainst(t, g, x)]++ })
		}
	}
	for _, e := range []api.Errno{api.OK, api.ErrLeaf, api.ErrTree} {
		if answers[e] == 0 {
			t.Error("never answered:", e)
		}
	}
}

// P8.1, P8.2, P8.3, P8.5: greater trees of no grammar.
func TestAnyTrees(t *testing.T) {
	r := rand.New(rand.NewSource(810))
	for range 20000 {
		heldAgainst(t, checked(), anyTree(r, 12))
	}
	for range 300 {
		heldAgainst(t, checked(), anyTree(r, 200))
	}
}

// P8.1, P8.5: trees of a grammar, and such with one or two places turned.
func TestTurnedTrees(t *testing.T) {
	r := rand.New(rand.NewSource(811))
	turns := strangeFillings()
	answers := map[api.Errno]int{}
	for range 400 {
		g := anyGrammar(r, 3, 3, 8, 3)
		for _, x := range anyTrees(r, g, 4) {
			if e := heldAgainst(t, g, x); e != api.OK {
				t.Fatal("a tree is refused:", g.Prods, x, e)
			}
			for range 1 + r.Intn(2) {
				places := placesOf(x)
				at := r.Intn(len(places))
				turned := places[at].tree
				switch f := turns[r.Intn(len(turns))]; r.Intn(5) {
				case 0:
					turned.Prod = f.Prod
				case 1:
					turned.Tok = f.Tok
				case 2:
					turned.Kids = append(slices.Clone(turned.Kids), f)
				case 3:
					turned.Kids = turned.Kids[:len(turned.Kids)/2]
				default:
					turned = places[r.Intn(len(places))].tree
				}
				x = modelGraft(x, at, turned)
			}
			answers[heldAgainst(t, g, x)]++
		}
	}
	for _, e := range []api.Errno{api.OK, api.ErrLeaf, api.ErrTree} {
		if answers[e] < 300 {
			t.Error("too seldom answered:", e, answers[e])
		}
	}
}

// P8.1: the order of faults, and what is asked of one place.
func TestCheckByHand(t *testing.T) {
	g := checked()
	good := node(0, leaf(0), node(1, leaf(1)))
	withKids := api.Tree{Prod: -1, Kids: []api.Tree{leaf(0)}}
	for _, c := range []struct {
		tree api.Tree
		e    api.Errno
		at   int
	}{
		{good, api.OK, 4},
		{leaf(1), api.OK, 1},
		{node(2), api.OK, 1},
		{node(3, node(2), good, leaf(1)), api.OK, 7},
		{leaf(2), api.ErrLeaf, 0}, // the end marker is no terminal
		{leaf(-1), api.ErrLeaf, 0},
		{leaf(math.MinInt), api.ErrLeaf, 0},
		{leaf(math.MaxInt), api.ErrLeaf, 0},
		{withKids, api.ErrLeaf, 0},
		{node(4), api.ErrTree, 0},
		{node(-2), api.ErrTree, 0},
		{node(math.MinInt), api.ErrTree, 0},
		{node(math.MaxInt), api.ErrTree, 0},
		{api.Tree{Prod: 2, Tok: api.Token{Kind: 1}}, api.ErrTree, 0},
		{api.Tree{Prod: 2, Tok: api.Token{Text: "x"}}, api.ErrTree, 0},
		{node(0, leaf(0)), api.ErrTree, 0},
		{node(0, leaf(0), good, good), api.ErrTree, 0},
		{node(0, leaf(1), good), api.ErrLeaf, 1},    // another terminal
		{node(0, node(2), good), api.ErrLeaf, 1},    // a node where a terminal stands
		{node(0, leaf(0), leaf(0)), api.ErrLeaf, 2}, // a leaf where a nonterminal stands
		{node(0, leaf(0), node(2)), api.ErrTree, 2}, // another nonterminal
		{node(0, node(7), good), api.ErrTree, 1},    // by itself first: no production, ahead of the terminal that stands there
		{node(0, leaf(0), withKids), api.ErrLeaf, 2},
		{node(0, leaf(1), node(9)), api.ErrLeaf, 1}, // the first place decides
		{node(3, node(2), node(0, leaf(0), leaf(7)), leaf(0)), api.ErrLeaf, 4},
	} {
		if e, at := trees.Check(g, c.tree); e != c.e || at != c.at {
			t.Errorf("Check of %v: %v, %d, want %v, %d", c.tree, e, at, c.e, c.at)
		}
	}
}

// P8.1: Root looks at nothing but the root.
func TestRootByHand(t *testing.T) {
	g := checked()
	for _, c := range []struct {
		tree api.Tree
		s    api.Sym
		e    api.Errno
	}{
		{leaf(1), term(1), api.OK},
		{api.Tree{Prod: -1, Kids: []api.Tree{leaf(9)}}, term(0), api.OK},
		{api.Tree{Prod: 2, Tok: api.Token{Kind: 5}, Kids: []api.Tree{node(99)}}, non(1), api.OK},
		{node(3), non(0), api.OK},
		{leaf(2), api.Sym{}, api.ErrLeaf},
		{leaf(-1), api.Sym{}, api.ErrLeaf},
		{node(4), api.Sym{}, api.ErrTree},
		{node(-2), api.Sym{}, api.ErrTree},
	} {
		if s, e := trees.Root(g, c.tree); s != c.s || e != c.e {
			t.Errorf("Root of %v: %v, %v, want %v, %v", c.tree, s, e, c.s, c.e)
		}
	}
}

// P8.2: what is the same: every two trees of at most two places, and of three with little in them; no kids and an empty list.
func TestSame(t *testing.T) {
	var all []api.Tree
	collect := func(x api.Tree) { all = append(all, x) }
	for places := 1; places <= 2; places++ {
		for _, shape := range shapes(places) {
			eachFilled(shape, strangeFillings(), collect)
		}
	}
	for _, shape := range append(shapes(3), shapes(4)...) {
		eachFilled(shape, []api.Tree{node(0), leaf(0)}, collect)
	}
	for _, a := range all {
		for _, b := range all {
			if trees.Same(a, b) != modelSame(a, b) {
				t.Fatalf("Same of %v and %v: %v", a, b, trees.Same(a, b))
			}
		}
	}
	empty := api.Tree{Prod: 2, Kids: []api.Tree{}}
	if !trees.Same(empty, node(2)) || !trees.Same(node(2), empty) || !trees.Same(node(0, empty), node(0, node(2))) {
		t.Error("an empty list is no other than none")
	}
}

// P8.2: greater trees against themselves, turned in one place or not.
func TestSameOfGreater(t *testing.T) {
	r := rand.New(rand.NewSource(820))
	fillings := strangeFillings()
	equal := 0
	for range 5000 {
		a := anyTree(r, 20)
		b := cloned(a)
		if !trees.Same(a, b) {
			t.Fatal("not the same as its copy:", a)
		}
		at := r.Intn(len(placesOf(b)))
		turned := placesOf(b)[at].tree
		if f := fillings[r.Intn(len(fillings))]; r.Intn(3) > 0 {
			turned.Prod, turned.Tok = f.Prod, f.Tok
		} else {
			turned.Kids = append(slices.Clone(turned.Kids), f)
		}
		b = modelGraft(b, at, turned)
		if modelSame(a, b) {
			equal++
		}
		if trees.Same(a, b) != modelSame(a, b) || trees.Same(b, a) != modelSame(b, a) {
			t.Fatalf("Same of %v and %v: %v", a, b, trees.Same(a, b))
		}
	}
	if equal == 0 || equal > 2000 {
		t.Error("too seldom or too often the same:", equal)
	}
}

// P8.2: height: a leaf's is 0, whatever hangs below it.
func TestMeasureByHand(t *testing.T) {
	under := api.Tree{Prod: -1, Kids: []api.Tree{node(0, node(1)), leaf(3)}}
	for _, c := range []struct {
		tree                   api.Tree
		places, leaves, height int
	}{
		{api.Tree{}, 1, 0, 1},
		{leaf(7), 1, 1, 0},
		{node(-2, leaf(0)), 2, 1, 1},
		{under, 4, 2, 0},
		{node(0, under), 5, 2, 1},
		{node(0, under, node(1)), 6, 2, 2},
		{node(0, node(5, node(6), leaf(1)), leaf(0)), 5, 2, 3},
	} {
		if p, l, h := trees.Measure(c.tree); p != c.places || l != c.leaves || h != c.height {
			t.Errorf("Measure of %v: %d, %d, %d", c.tree, p, l, h)
		}
	}
}

// P8.2: places that there are not.
func TestNoSuchPlace(t *testing.T) {
	r := rand.New(rand.NewSource(821))
	for range 300 {
		x := anyTree(r, 10)
		n := len(placesOf(x))
		for _, at := range []int{-1, n, n + 1, math.MinInt, math.MaxInt, -n} {
			if got, e := trees.At(x, at); e != api.ErrRange || !isZero(got) {
				t.Fatal("At:", at, n, got, e)
			}
			if got, e := trees.Graft(x, at, leaf(5)); e != api.ErrRange || !isZero(got) {
				t.Fatal("Graft:", at, n, got, e)
			}
		}
	}
}

// P8.2: Graft in every place.
func TestGraft(t *testing.T) {
	r := rand.New(rand.NewSource(822))
	for range 1500 {
		x, s := anyTree(r, 10), anyTree(r, 6)
		for at := range placesOf(x) {
			if got, e := trees.Graft(x, at, s); e != api.OK || !modelSame(got, modelGraft(x, at, s)) {
				t.Fatalf("Graft of %v into %v at %d: %v, %v", s, x, at, got, e)
			}
		}
	}
}

// wrongGrammars break grammar.Check in several ways.
func wrongGrammars() []api.Grammar {
	noProds := grammarOf(1, 1, 0)
	noStart := checked()
	noStart.Start = 9
	twice := grammarOf(1, 1, 0, prod(0, term(0)), prod(0, term(0)))
	symbol := grammarOf(1, 1, 0, prod(0), prod(0, term(1)))
	return []api.Grammar{{}, noProds, noStart, twice, symbol}
}

// P8.1, P8.3, P8.5: a grammar that may not be goes ahead of all else, with place 0.
func TestWrongGrammars(t *testing.T) {
	for _, g := range wrongGrammars() {
		want, _ := grammar.Check(g)
		for _, x := range []api.Tree{{}, leaf(0), leaf(9), node(9), node(0, leaf(0)), node(0, leaf(0), node(9))} {
			if e, at := trees.Check(g, x); e != want || at != 0 {
				t.Error("Check:", e, at, want)
			}
			if s, e := trees.Root(g, x); e != want || s != (api.Sym{}) {
				t.Error("Root:", s, e, want)
			}
			if s, e := trees.Print(g, x); e != want || s != "" {
				t.Error("Print:", s, e, want)
			}
		}
		for _, l := range [][]int{nil, {0}, {0, 77}, {-1}} {
			if x, e, at := trees.FromLeft(g, l, nil); e != want || at != 0 || !isZero(x) {
				t.Error("FromLeft:", x, e, at, want)
			}
			if x, e, at := trees.FromRight(g, l, nil); e != want || at != 0 || !isZero(x) {
				t.Error("FromRight:", x, e, at, want)
			}
		}
	}
}

// P8.5: names are told as they stand, quoted ones too; texts of tokens are not.
func TestPrintByHand(t *testing.T) {
	g, e, at := notation.Parse("%term n '(' ')' '+' S : S '+' S | '(' S ')' | n | ;")
	if e != api.OK {
		t.Fatal(e, at)
	}
	n := node(2, api.Tree{Prod: -1, Tok: api.Token{Kind: 0, Text: "17 )("}})
	for _, c := range []struct {
		tree api.Tree
		text string
	}{
		{leaf(1), "'('"},
		{node(3), "(S)"},
		{n, "(S n)"},
		{node(1, leaf(1), n, leaf(2)), "(S '(' (S n) ')')"},
		{node(0, node(3), leaf(3), n), "(S (S) '+' (S n))"},
	} {
		if s, e := trees.Print(g, c.tree); e != api.OK || s != c.text {
			t.Errorf("%q, %v, want %q", s, e, c.text)
		}
	}
	if s, e := trees.Print(g, node(1, leaf(1), n, leaf(1))); e != api.ErrLeaf || s != "" {
		t.Error("a wrong tree is printed:", s, e)
	}
}
