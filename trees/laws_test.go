package trees_test

import (
	"bytes"
	"math/rand"
	"reflect"
	"runtime/debug"
	"slices"
	"strings"
	"testing"

	"gantry/api"
	"gantry/grammar"
	"gantry/trees"
)

// P8.7: Graft of At is the tree; At of Graft is what was grafted; the yield changes in that place alone.
func TestGraftLaws(t *testing.T) {
	r := rand.New(rand.NewSource(870))
	for range 2000 {
		x, s := anyTree(r, 14), anyTree(r, 8)
		ahead := 0 // leaves ahead of the place
		for at, p := range placesOf(x) {
			part, e := trees.At(x, at)
			if back, f := trees.Graft(x, at, part); e != api.OK || f != api.OK || !trees.Same(back, x) {
				t.Fatal("Graft of At:", x, at, part, back)
			}
			y, e := trees.Graft(x, at, s)
			if got, f := trees.At(y, at); e != api.OK || f != api.OK || !trees.Same(got, s) {
				t.Fatal("At of Graft:", x, at, s, y, got)
			}
			w, old := trees.Yield(x), trees.Yield(part)
			if want := slices.Concat(w[:ahead], trees.Yield(s), w[ahead+len(old):]); !slices.Equal(trees.Yield(y), want) {
				t.Fatal("Yield of Graft:", x, at, s, trees.Yield(y), want)
			}
			if p.tree.Prod == -1 {
				ahead++
			}
		}
	}
}

// P8.9: of all small trees of a grammar no two are printed as one; texts in the leaves make no difference.
func TestPrintTellsApart(t *testing.T) {
	r := rand.New(rand.NewSource(890))
	all := smallGrammars()
	for range 600 {
		all = append(all, anyGrammar(r, 2, 3, 5, 2))
	}
	asked := 0
	for _, g := range all {
		seen := map[string]api.Tree{}
		ask := func(x api.Tree) {
			asked++
			text, e := trees.Print(g, x)
			if e != api.OK {
				t.Fatal(g.Prods, x, e)
			}
			if y, there := seen[text]; there {
				t.Fatal("two trees with one text:", text, x, y)
			}
			seen[text] = x
			filled := worded(x, words(kindsOf(modelYield(x))))
			if again, e := trees.Print(g, filled); e != api.OK || again != text {
				t.Fatal("texts are told:", text, again, e)
			}
		}
		for n := range g.Terms {
			ask(leaf(n))
		}
		for n := range g.Nons {
			for nodes := range 6 {
				for _, x := range treesWith(g, non(n), nodes) {
					ask(x)
				}
			}
		}
	}
	if asked < 3000 {
		t.Error("too few:", asked)
	}
}

const deep = 200000

// nested is a tree that is so deep: each node has the given one among its kids.
func nested(inner api.Tree, over func(api.Tree) api.Tree) api.Tree {
	for range deep {
		inner = over(inner)
	}
	return inner
}

// P8.10: all calls of trees that are very deep, on a stack on which nobody goes down so far.
func TestDeepTrees(t *testing.T) {
	defer debug.SetMaxStack(debug.SetMaxStack(1 << 20))
	// 0: S a S, 1: S S a, 2: S S, 3: S b
	g := grammarOf(2, 1, 0, prod(0, term(0), non(0)), prod(0, non(0), term(0)), prod(0, non(0)), prod(0, term(1)))
	bottom := node(3, leaf(1))
	for _, c := range []struct {
		tree   api.Tree
		places int
		bottom int // the innermost node's place
		text   string
	}{
		{nested(bottom, func(x api.Tree) api.Tree { return node(0, leaf(0), x) }), 2*deep + 2, 2 * deep, strings.Repeat("(n0 t0 ", deep) + "(n0 t1)" + strings.Repeat(")", deep)},
		{nested(bottom, func(x api.Tree) api.Tree { return node(1, x, leaf(0)) }), 2*deep + 2, deep, strings.Repeat("(n0 ", deep) + "(n0 t1)" + strings.Repeat(" t0)", deep)},
		{nested(bottom, func(x api.Tree) api.Tree { return node(2, x) }), deep + 2, deep, strings.Repeat("(n0 ", deep) + "(n0 t1)" + strings.Repeat(")", deep)},
	} {
		x := c.tree
		if e, n := trees.Check(g, x); e != api.OK || n != c.places {
			t.Error("Check:", e, n)
		}
		if s, e := trees.Root(g, x); e != api.OK || s != non(0) {
			t.Error("Root:", s, e)
		}
		if p, l, h := trees.Measure(x); p != c.places || l != c.places-deep-1 || h != deep+1 {
			t.Error("Measure:", p, l, h)
		}
		if text, e := trees.Print(g, x); e != api.OK || text != c.text {
			t.Error("Print:", len(text), e)
		}
		deepDerivations(t, g, x)
		deepParts(t, x, c.bottom)
		frame, e := trees.Encode(x)
		if back, f, at := trees.Decode(frame); e != api.OK || f != api.OK || at != 0 || !trees.Same(back, x) {
			t.Error("Encode and Decode:", e, f, at)
		}
	}
}

func deepDerivations(t *testing.T, g api.Grammar, x api.Tree) {
	t.Helper()
	w, left, right := trees.Yield(x), trees.Left(x), trees.Right(x)
	slices.Reverse(right)
	if len(left) != deep+1 || !slices.Equal(left, right) { // one node in the other
		t.Error("Left and Right:", len(left), len(right))
	}
	if y, e, at := trees.FromLeft(g, left, w); e != api.OK || at != 0 || !trees.Same(x, y) {
		t.Error("FromLeft:", e, at)
	}
	slices.Reverse(right)
	if y, e, at := trees.FromRight(g, right, w); e != api.OK || at != 0 || !trees.Same(x, y) {
		t.Error("FromRight:", e, at)
	}
	if _, e, at := trees.FromLeft(g, left[:deep], w); e == api.OK {
		t.Error("FromLeft of less:", e, at)
	}
}

// deepParts asks for the innermost node, puts another one in, and a deep one into a deep one; one turned place is seen.
func deepParts(t *testing.T, x api.Tree, bottom int) {
	t.Helper()
	if y, e := trees.At(x, bottom); e != api.OK || !trees.Same(y, node(3, leaf(1))) {
		t.Error("At:", e)
	}
	y, e := trees.Graft(x, bottom, node(3, leaf(0)))
	if e != api.OK || trees.Same(x, y) {
		t.Error("Graft:", e)
	}
	y, e = trees.Graft(x, bottom, x)
	if _, _, h := trees.Measure(y); e != api.OK || h != 2*deep+1 {
		t.Error("Graft of itself:", e, h)
	}
	if z, e := trees.At(y, bottom); e != api.OK || !trees.Same(z, x) {
		t.Error("At of Graft:", e)
	}
}

// P8.10: leaves one in the other, and wrong places deep down.
func TestDeepFaults(t *testing.T) {
	defer debug.SetMaxStack(debug.SetMaxStack(1 << 20))
	g := grammarOf(2, 1, 0, prod(0, non(0)), prod(0, term(1)))
	under := nested(leaf(0), func(x api.Tree) api.Tree { return api.Tree{Prod: -1, Kids: []api.Tree{x}} })
	if p, l, h := trees.Measure(under); p != deep+1 || l != deep+1 || h != 0 || len(trees.Yield(under)) != deep+1 {
		t.Error("Measure:", p, l, h)
	}
	over := func(x api.Tree) api.Tree { return node(0, x) }
	if e, at := trees.Check(g, nested(leaf(0), over)); e != api.ErrLeaf || at != deep {
		t.Error("Check:", e, at)
	}
	if e, at := trees.Check(g, nested(node(2), over)); e != api.ErrTree || at != deep {
		t.Error("Check:", e, at)
	}
	if b, e := trees.Encode(nested(node(-2), over)); e != api.ErrRange || b != nil {
		t.Error("Encode:", e)
	}
	if trees.Same(nested(node(1), over), nested(node(2), over)) {
		t.Error("Same")
	}
}

// roomy is a tree with spare room behind each list of kids, all of it marked.
func roomy(t api.Tree) api.Tree {
	var kids []api.Tree
	for _, kid := range t.Kids {
		kids = append(kids, roomy(kid))
	}
	t.Kids = widen(kids, node(77, leaf(77)))
	return t
}

// widen is a list with spare room behind it, all of it marked.
func widen[T any](l []T, mark T) []T {
	out := append(slices.Clone(l), mark, mark, mark)
	return out[:len(l):len(out)]
}

// shown is all that a tree's lists hold, spare room too, in memory of its own.
func shown(t api.Tree) api.Tree {
	t.Kids = slices.Clone(t.Kids[:cap(t.Kids)])
	for i, kid := range t.Kids {
		t.Kids[i] = shown(kid)
	}
	return t
}

// roomyGrammar is a grammar with spare room behind each list.
func roomyGrammar(g api.Grammar) api.Grammar {
	g.Terms, g.Nons = widen(g.Terms, "spare"), widen(g.Nons, "spare")
	g.Prods = widen(g.Prods, prod(77, term(77)))
	for i := range g.Prods {
		g.Prods[i].Right = widen(g.Prods[i].Right, term(77))
	}
	return g
}

// shownGrammar is all that a grammar's lists hold, spare room too, in memory of its own.
func shownGrammar(g api.Grammar) api.Grammar {
	g.Terms, g.Nons = slices.Clone(g.Terms[:cap(g.Terms)]), slices.Clone(g.Nons[:cap(g.Nons)])
	g.Prods = slices.Clone(g.Prods[:cap(g.Prods)])
	for i := range g.Prods {
		g.Prods[i].Right = slices.Clone(g.Prods[i].Right[:cap(g.Prods[i].Right)])
	}
	return g
}

// askAll asks all calls, and answers what they made.
func askAll(g api.Grammar, x, s api.Tree, place int, l []int, w []api.Token) (made []api.Tree, lists [][]int, tokens [][]api.Token, code []byte) {
	trees.Check(g, x)
	trees.Root(g, x)
	trees.Measure(x)
	trees.Same(x, s)
	trees.Print(g, x)
	at, _ := trees.At(x, place)
	grafted, _ := trees.Graft(x, place, s)
	itself, _ := trees.Graft(x, place, x)
	left, _, _ := trees.FromLeft(g, l, w)
	right, _, _ := trees.FromRight(g, l, w)
	code, _ = trees.Encode(x)
	decoded, _, _ := trees.Decode(code)
	return []api.Tree{at, grafted, itself, left, right, decoded},
		[][]int{trees.Left(x), trees.Right(x)}, [][]api.Token{trees.Yield(x), trees.Yield(x)}, code
}

// P8.11: no call changes what is handed in, spare room too.
func TestArgumentsAreLeft(t *testing.T) {
	r := rand.New(rand.NewSource(8110))
	for range 300 {
		g := roomyGrammar(anyGrammar(r, 3, 3, 8, 3))
		wasG := shownGrammar(g)
		pool := append(anyTrees(r, g, 3), anyTree(r, 8), anyTree(r, 8))
		for _, x := range pool {
			x, s := roomy(x), roomy(pool[r.Intn(len(pool))])
			l := widen(modelLeft(x), 1)
			if r.Intn(2) == 0 {
				l = widen(modelRight(x), 1)
			}
			w := widen(modelYield(x), api.Token{Kind: 1})
			wasX, wasS, wasL, wasW := shown(x), shown(s), slices.Clone(l[:cap(l)]), slices.Clone(w[:cap(w)])
			_, _, _, code := askAll(g, x, s, r.Intn(len(placesOf(x))), l, w)
			wasCode := bytes.Clone(code)
			trees.Decode(code)
			if !reflect.DeepEqual(shown(x), wasX) || !reflect.DeepEqual(shown(s), wasS) || !reflect.DeepEqual(shownGrammar(g), wasG) {
				t.Fatal("a tree or a grammar was changed")
			}
			if !slices.Equal(l[:cap(l)], wasL) || !slices.Equal(w[:cap(w)], wasW) || !bytes.Equal(code, wasCode) {
				t.Fatal("a list was changed")
			}
		}
	}
}

// rowsOf are all lists of kids in a tree, spare room too.
func rowsOf(t api.Tree) [][]api.Tree {
	all := [][]api.Tree{t.Kids[:cap(t.Kids)]}
	for _, kid := range t.Kids {
		all = append(all, rowsOf(kid)...)
	}
	return all
}

// apart tells whether no two of the rows share memory: each is marked, and then asked for its mark.
func apart(all [][]api.Tree) bool {
	for i, row := range all {
		for k := range row {
			row[k] = node(1000 + i)
		}
	}
	for i, row := range all {
		for _, x := range row {
			if x.Prod != 1000+i {
				return false
			}
		}
	}
	return true
}

func spoil[T any](l []T, mark T) {
	for i := range l[:cap(l)] {
		l[:cap(l)][i] = mark
	}
}

// P8.11: answers share memory neither with arguments nor with one another, nor do two lists of one, even if parts of the argument stand in several places.
func TestAnswersShareNothing(t *testing.T) {
	r := rand.New(rand.NewSource(8111))
	for range 300 {
		g := anyGrammar(r, 3, 3, 8, 3)
		pool := append(anyTrees(r, g, 3), anyTree(r, 8))
		for _, x := range pool {
			x = roomy(x)
			if r.Intn(2) == 0 {
				x = node(0, x, node(1, x), x)
			}
			l, w := modelLeft(x), modelYield(x)
			wasX, wasL, wasW := shown(x), slices.Clone(l), slices.Clone(w)
			place := r.Intn(len(placesOf(x)))
			made, lists, tokens, code := askAll(g, x, x, place, l, w)
			again, _, _, _ := askAll(g, x, x, place, l, w)
			var all [][]api.Tree
			for _, y := range made {
				all = append(all, rowsOf(y)...)
			}
			if !apart(all) {
				t.Fatal("two lists of kids share memory:", x)
			}
			spoil(code, 0)
			spoil(lists[0], -7)
			spoil(tokens[0], api.Token{Kind: -7})
			if !slices.Equal(lists[1], modelRight(x)) || !slices.Equal(tokens[1], modelYield(x)) {
				t.Fatal("two lists share memory")
			}
			spoil(lists[1], -7)
			if !reflect.DeepEqual(shown(x), wasX) || !slices.Equal(l, wasL) || !slices.Equal(w, wasW) {
				t.Fatal("an answer shares memory with an argument")
			}
			if want, _ := trees.Graft(x, place, x); !modelSame(again[2], want) || !modelSame(again[0], placesOf(x)[place].tree) {
				t.Fatal("two answers share memory")
			}
		}
	}
}

// P8.11: what was decoded and what was made of words stays, whatever becomes of the bytes and words.
func TestAnswersStay(t *testing.T) {
	g := checked()
	w := words([]int{0, 0, 1})
	x, _, _ := trees.FromLeft(g, []int{0, 0, 1}, w)
	y, _, _ := trees.FromRight(g, []int{1, 0, 0}, w)
	code, e := trees.Encode(x)
	z, f, _ := trees.Decode(code)
	want := worded(x, slices.Clone(w))
	spoil(w, api.Token{Kind: 7, Text: "spoilt"})
	spoil(code, 'x')
	if e != api.OK || f != api.OK || !modelSame(x, want) || !modelSame(y, want) || !modelSame(z, want) {
		t.Error("an answer has changed:", x, y, z, want)
	}
}

// P8.1: a grammar as great as may be, and long right sides.
func TestGreatGrammar(t *testing.T) {
	g := grammarOf(api.MaxTerms, api.MaxNons, 0)
	for i := range api.MaxProds {
		var right []api.Sym
		for k := range api.MaxRight {
			right = append(right, term((i*k+i/64)%api.MaxTerms))
		}
		g.Prods = append(g.Prods, prod(i%api.MaxNons, right...))
	}
	if e, at := grammar.Check(g); e != api.OK {
		t.Fatal(e, at)
	}
	for i, p := range g.Prods {
		x := node(i)
		for _, s := range p.Right {
			x.Kids = append(x.Kids, leaf(s.N))
		}
		if e, n := trees.Check(g, x); e != api.OK || n != 1+api.MaxRight {
			t.Fatal(i, e, n)
		}
		if y, e, at := trees.FromRight(g, []int{i}, trees.Yield(x)); e != api.OK || at != 0 || !trees.Same(x, y) {
			t.Fatal(i, e, at)
		}
		x.Kids[api.MaxRight-1].Tok.Kind++
		if e, at := trees.Check(g, x); e != api.ErrLeaf || at != api.MaxRight {
			t.Fatal(i, e, at)
		}
	}
}
