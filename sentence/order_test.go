package sentence_test

import (
	"math/rand"
	"runtime/debug"
	"slices"
	"testing"

	"gantry/api"
	"gantry/sentence"
	"gantry/trees"
	"gantry/trim"
)

// lazy hands out trees in their order, one in the other, where there are some: for words with very many.
type lazy struct {
	grammar api.Grammar
	word    []int
	some    map[part]bool
}

type part struct {
	sym      api.Sym
	from, to int
}

func lazyOf(g api.Grammar, word []int) lazy {
	f := lazy{g, word, map[part]bool{}}
	for i, n := range word {
		f.some[part{term(n), i, i + 1}] = true
	}
	for changed := true; changed; {
		changed = false
		for _, p := range g.Prods {
			for from := range len(word) + 1 {
				for to := from; to <= len(word); to++ {
					if at := (part{non(p.Left), from, to}); !f.some[at] && f.someRow(p.Right, from, to) {
						f.some[at] = true
						changed = true
					}
				}
			}
		}
	}
	return f
}

func (f lazy) someRow(right []api.Sym, from, to int) bool {
	if len(right) == 0 {
		return from == to
	}
	for at := from; at <= to; at++ {
		if f.some[part{right[0], from, at}] && f.someRow(right[1:], at, to) {
			return true
		}
	}
	return false
}

func (f lazy) each(p part, give func(api.Tree) bool) bool {
	if p.sym.Kind == api.SymTerm {
		return give(leaf(p.sym.N))
	}
	for i, q := range f.grammar.Prods {
		if q.Left != p.sym.N {
			continue
		}
		ok := f.eachEnds(q.Right, nil, p.from, p.to, func(row []part) bool {
			return f.eachRow(row, nil, func(kids []api.Tree) bool { return give(node(i, kids...)) })
		})
		if !ok {
			return false
		}
	}
	return true
}

// eachEnds goes over all parts that a row of kids may have, the shorter ones first.
func (f lazy) eachEnds(right []api.Sym, ahead []part, from, to int, give func([]part) bool) bool {
	if len(right) == 0 {
		return from != to || give(ahead)
	}
	for at := from; at <= to; at++ {
		first := part{right[0], from, at}
		if f.some[first] && f.someRow(right[1:], at, to) && !f.eachEnds(right[1:], append(slices.Clone(ahead), first), at, to, give) {
			return false
		}
	}
	return true
}

func (f lazy) eachRow(row []part, ahead []api.Tree, give func([]api.Tree) bool) bool {
	if len(row) == 0 {
		return give(ahead)
	}
	return f.each(row[0], func(kid api.Tree) bool {
		return f.eachRow(row[1:], append(slices.Clone(ahead), kid), give)
	})
}

// firstTrees is the first so many trees, or all.
func firstTrees(g api.Grammar, n int, word []int, most int) []api.Tree {
	var l []api.Tree
	f := lazyOf(g, word)
	if f.some[part{non(n), 0, len(word)}] {
		f.each(part{non(n), 0, len(word)}, func(t api.Tree) bool {
			l = append(l, t)
			return len(l) < most
		})
	}
	return l
}

// twofold is S -> B B .. (so many), B -> a, B -> C, C -> a: two trees for each a.
func twofold(bits int) api.Grammar {
	g := grammarOf(1, 3, 0, prod(0), prod(1, term(0)), prod(1, non(2)), prod(2, term(0)))
	g.Prods[0].Right = slices.Repeat(syms(non(1)), bits)
	return g
}

// heldFirst asks for the first trees of a long word, and how many there are.
func heldFirst(t *testing.T, g api.Grammar, n int, w []int, most int) {
	t.Helper()
	want := firstTrees(g, n, w, most)
	got, e := sentence.Trees(g, n, w, most)
	if e != api.OK || !slices.EqualFunc(got, want, sameTree) {
		t.Fatal("Trees:", g.Prods, n, w, most, len(got), e, len(want))
	}
	if c, e := sentence.Count(g, n, w); e != api.OK || c < len(want) || len(want) < most && c != len(want) {
		t.Fatal("Count:", g.Prods, n, w, c, e, len(want))
	}
}

// P9.1: 4096 trees are counted and told, one more is the cap, and so is all above it.
func TestCap(t *testing.T) {
	w := make([]int, 13)
	exact := twofold(12)
	oneMore := twofold(12)
	oneMore.Prods = append(oneMore.Prods, prod(0, slices.Repeat(syms(term(0)), 12)...))
	twoMore := twofold(12)
	twoMore.Nons = append(twoMore.Nons, "d")
	twoMore.Prods = append(oneMore.Prods, prod(0, non(3)), prod(3, slices.Repeat(syms(term(0)), 12)...))
	twice := twofold(12) // two productions with as many each
	twice.Nons = append(twice.Nons, "d")
	twice.Prods = append(twice.Prods, prod(0, non(3)), prod(3, twice.Prods[0].Right...))
	for _, c := range []struct {
		grammar api.Grammar
		word    []int
		want    int
	}{
		{twice, w[:12], 4097},
		{exact, w[:12], 4096}, {oneMore, w[:12], 4097}, {twoMore, w[:12], 4097}, {twofold(13), w, 4097}, {twofold(11), w[:11], 2048},
		{exact, w[:11], 0}, {exact, w, 0},
	} {
		if n, e := sentence.Count(c.grammar, 0, c.word); n != c.want || e != api.OK {
			t.Error("Count:", len(c.word), n, e, c.want)
		}
		l, e := sentence.Trees(c.grammar, 0, c.word, 4096)
		if len(l) != min(c.want, 4096) || e != api.OK {
			t.Error("Trees:", len(c.word), len(l), e, c.want)
		}
		heldFirst(t, c.grammar, 0, c.word, 4096)
	}
}

// P9.1: how many ways there are to group: Catalan's numbers.
func TestCatalan(t *testing.T) {
	g := grammarOf(1, 1, 0, prod(0, non(0), non(0)), prod(0, term(0)))
	want := []int{0, 1, 1, 2, 5, 14, 42, 132, 429, 1430}
	for length := range 65 {
		c, e := sentence.Count(g, 0, make([]int, length))
		if e != api.OK || length < len(want) && c != want[length] || length >= len(want) && c != 4097 {
			t.Error(length, c, e)
		}
	}
}

// P9.1, P9.3: the first trees of long words with very many: counts at the cap in all places.
func TestFirstOfMany(t *testing.T) {
	pairs := grammarOf(1, 1, 0, prod(0, non(0), non(0)), prod(0, term(0)))
	swapped := grammarOf(1, 1, 0, prod(0, term(0)), prod(0, non(0), non(0)))
	rows := grammarOf(1, 1, 0, prod(0, slices.Repeat(syms(non(0)), 16)...), prod(0, term(0)))
	// Two rows beside each other, each with more than the cap; and what may be empty among them.
	beside := grammarOf(2, 4, 0, prod(0, non(1), non(2), non(1)), prod(1, non(3), non(1)), prod(1, term(0)), prod(3, term(0)), prod(3, non(2), term(0)), prod(2), prod(2, term(1)))
	long := make([]int, 64)
	mixed := slices.Repeat([]int{0, 0, 0, 1}, 16)
	mixed = append(mixed[:63], 0)
	for _, c := range []struct {
		grammar api.Grammar
		word    []int
		most    int
	}{
		{pairs, long[:14], 4096}, {pairs, long[:40], 500}, {swapped, long[:14], 4096}, {swapped, long, 200},
		{rows, long[:31], 1500}, {rows, long[:46], 200}, {rows, long[:61], 50}, {rows, long[:60], 9},
		{beside, long, 1000}, {beside, mixed, 1000}, {beside, long[:20], 4096}, {sums(), slices.Repeat([]int{1, 0}, 32)[:63], 300},
	} {
		heldFirst(t, c.grammar, 0, c.word, c.most)
	}
}

// P9.1, P9.3: words of grammars of every kind, longer ones.
func TestLongerWords(t *testing.T) {
	r := rand.New(rand.NewSource(93))
	asked, some := 0, 0
	for range 1500 {
		g := anyGrammar(r, 2, 3, 8, 3)
		if len(must(trim.Circular(g))) > 0 {
			continue
		}
		for n := range g.Nons {
			length := 4 + r.Intn(6)
			for _, w := range must(sentence.Words(g, n, length, 3)) {
				heldFirst(t, g, n, w, 1+r.Intn(60))
				asked++
				if must(sentence.Count(g, n, w)) > 1 {
					some++
				}
			}
		}
	}
	if asked < 300 || some < 100 {
		t.Error("too few:", asked, some)
	}
}

// worded fills texts into the leaves, by a number for each.
func worded(t api.Tree, r *rand.Rand) api.Tree {
	t.Kids = slices.Clone(t.Kids)
	for i, kid := range t.Kids {
		t.Kids[i] = worded(kid, r)
	}
	if t.Prod == -1 {
		t.Tok.Text = string(rune('a' + r.Intn(4)))
	}
	return t
}

// P9.2, P9.6: all pairs of trees of one root and one word; texts in the leaves make no difference.
func TestCompareAllPairs(t *testing.T) {
	r := rand.New(rand.NewSource(94))
	pairs := 0
	for range 1500 {
		g := anyGrammar(r, 2, 3, 8, 3)
		if len(must(trim.Circular(g))) > 0 {
			continue
		}
		n := r.Intn(len(g.Nons))
		eachWord(len(g.Terms), 4, func(w []int) {
			all := modelTrees(g, n, w)
			for i, a := range all[:min(len(all), 12)] {
				for j, b := range all[:min(len(all), 12)] {
					want := modelCompare(a, b)
					if c, e := sentence.Compare(g, worded(a, r), worded(b, r)); e != api.OK || c != want || (c == 0) != (i == j) {
						t.Fatal(g.Prods, a, b, c, e, want)
					}
					pairs++
				}
			}
		})
	}
	if pairs < 10000 {
		t.Error("too few:", pairs)
	}
}

// P9.2: trees of circular grammars, too; leaves; what is unlike.
func TestCompareByHand(t *testing.T) {
	// 0: E E, 1: E E E, 2: E (nothing), 3: E a, 4: F a
	g := grammarOf(2, 2, 0, prod(0, non(0)), prod(0, non(0), non(0)), prod(0), prod(0, term(0)), prod(1, term(0)))
	a, nothing := node(3, leaf(0)), node(2)
	odd := api.Tree{Prod: 3, Kids: []api.Tree{{Prod: -1, Tok: api.Token{Text: "x"}}}}
	for _, c := range []struct {
		a, b api.Tree
		want int
		e    api.Errno
	}{
		{a, a, 0, api.OK},
		{a, odd, 0, api.OK},
		{leaf(0), leaf(0), 0, api.OK},
		{leaf(0), api.Tree{Prod: -1, Tok: api.Token{Text: "x"}}, 0, api.OK},
		{nothing, nothing, 0, api.OK},
		{node(0, a), a, -1, api.OK},
		{node(0, node(0, a)), node(0, a), -1, api.OK},
		{node(0, node(0, a)), node(0, node(1, nothing, a)), -1, api.OK},
		{node(1, nothing, a), node(1, a, nothing), -1, api.OK}, // the first kid is shorter
		{node(1, nothing, a), node(1, node(0, a), nothing), -1, api.OK},
		{node(1, nothing, node(0, a)), node(1, node(0, nothing), a), 1, api.OK}, // 2 is behind 0
		{node(1, nothing, node(0, a)), node(1, nothing, a), -1, api.OK},
		{node(1, node(1, nothing, nothing), a), node(1, nothing, node(0, a)), -1, api.OK},
		// The lengths of later kids go ahead of what the first one is.
		{node(1, node(1, a, nothing), node(1, a, node(1, a, a))), node(1, node(0, a), node(1, node(1, a, a), a)), 1, api.OK},
		{node(1, node(1, nothing, nothing), node(1, node(1, nothing, a), a)), node(1, node(1, nothing, nothing), node(1, a, a)), -1, api.OK},
		{a, node(4, leaf(0)), 0, api.ErrTree}, // another root
		{a, leaf(0), 0, api.ErrTree},
		{leaf(0), leaf(1), 0, api.ErrTree},
		{a, nothing, 0, api.ErrTree}, // another word
		{nothing, a, 0, api.ErrTree},
		{a, node(1, a, a), 0, api.ErrTree},
		{leaf(2), node(9), 0, api.ErrLeaf}, // the first tree's fault goes ahead
		{node(9), leaf(2), 0, api.ErrTree},
		{a, leaf(2), 0, api.ErrLeaf},
		{leaf(1), node(9), 0, api.ErrTree},
		{node(0, leaf(0)), node(9), 0, api.ErrLeaf},
		{api.Tree{Prod: -1, Kids: []api.Tree{a}}, a, 0, api.ErrLeaf},
	} {
		if got, e := sentence.Compare(g, c.a, c.b); got != c.want || e != c.e {
			t.Error(c.a, c.b, got, e, c.want, c.e)
		}
		if c.e == api.OK {
			if got, e := sentence.Compare(g, c.b, c.a); got != -c.want || e != api.OK {
				t.Error("the other way:", c.a, c.b, got, e)
			}
		}
	}
}

// P9.2: unlike kinds in the yield, where there are as many.
func TestCompareUnlikeWords(t *testing.T) {
	g := grammarOf(2, 1, 0, prod(0, non(0), non(0)), prod(0, term(0)), prod(0, term(1)))
	x, y := node(1, leaf(0)), node(2, leaf(1))
	all := []api.Tree{node(0, x, y), node(0, y, x), node(0, x, x), node(0, y, y)}
	for i, a := range all {
		for j, b := range all {
			want := api.ErrTree
			if i == j {
				want = api.OK
			}
			if c, e := sentence.Compare(g, a, b); c != 0 || e != want {
				t.Error(a, b, c, e)
			}
		}
	}
}

// P5 and P9.2: very deep trees, on a stack on which nobody goes down so far; they are measured once, not once at each depth.
func TestCompareDeep(t *testing.T) {
	defer debug.SetMaxStack(debug.SetMaxStack(1 << 20))
	const deep = 200000
	// 0: S a S, 1: S S a, 2: S S, 3: S b, 4: S T, 5: T b
	g := grammarOf(2, 2, 0, prod(0, term(0), non(0)), prod(0, non(0), term(0)), prod(0, non(0)), prod(0, term(1)), prod(0, non(1)), prod(1, term(1)))
	low, high := node(3, leaf(1)), node(4, node(5, leaf(1)))
	for _, over := range []func(api.Tree) api.Tree{
		func(x api.Tree) api.Tree { return node(0, leaf(0), x) },
		func(x api.Tree) api.Tree { return node(1, x, leaf(0)) },
		func(x api.Tree) api.Tree { return node(2, x) },
	} {
		a, b := low, high
		for range deep {
			a, b = over(a), over(b)
		}
		for _, c := range []struct {
			x, y api.Tree
			want int
		}{{a, b, -1}, {b, a, 1}, {a, a, 0}} {
			if got, e := sentence.Compare(g, c.x, c.y); got != c.want || e != api.OK {
				t.Error(got, e, c.want)
			}
		}
	}
}

// P9.2: trees whose parts stand in very many places, and that are unlike at the very end.
func TestCompareManyPlaces(t *testing.T) {
	g := grammarOf(1, 2, 0, prod(0, non(0), non(0)), prod(0, term(0)), prod(0, non(1)), prod(1, term(0)))
	full := []api.Tree{node(1, leaf(0))}
	for range 16 {
		last := full[len(full)-1]
		full = append(full, node(0, last, last))
	}
	last := node(2, node(3, leaf(0)))
	for _, half := range full[:16] {
		last = node(0, half, last)
	}
	if c, e := sentence.Compare(g, full[16], last); c != -1 || e != api.OK {
		t.Error(c, e)
	}
	if c, e := sentence.Compare(g, last, full[16]); c != 1 || e != api.OK {
		t.Error(c, e)
	}
}

// P9.1 and P5: words whose trees are as deep as may be, on a small stack.
func TestDeepTrees(t *testing.T) {
	defer debug.SetMaxStack(debug.SetMaxStack(1 << 20))
	g := grammarOf(2, api.MaxNons, 0)
	for n := range api.MaxNons - 1 {
		g.Prods = append(g.Prods, prod(n, non(n+1)))
	}
	g.Prods = append(g.Prods, prod(api.MaxNons-1, term(0), non(0)), prod(api.MaxNons-1, term(1)))
	w := make([]int, 64)
	w[63] = 1
	if c, e := sentence.Count(g, 0, w); c != 1 || e != api.OK {
		t.Error("Count:", c, e)
	}
	l, e := sentence.Trees(g, 0, w, 4096)
	if e != api.OK || len(l) != 1 {
		t.Fatal("Trees:", len(l), e)
	}
	if e, n := trees.Check(g, l[0]); e != api.OK || n != 64*api.MaxNons+64 {
		t.Error("Check:", e, n)
	}
	if _, _, h := trees.Measure(l[0]); h != 64*api.MaxNons {
		t.Error("height:", h)
	}
}

// P9.1: a tree without leaves that is greater than any memory is counted, and not made where none is asked for.
func TestGreatEmptyTree(t *testing.T) {
	g := grammarOf(1, api.MaxNons, 0)
	for n := range api.MaxNons - 1 {
		g.Prods = append(g.Prods, prod(n, slices.Repeat(syms(non(n+1)), api.MaxRight)...))
	}
	g.Prods = append(g.Prods, prod(api.MaxNons-1))
	if c, e := sentence.Count(g, 0, nil); c != 1 || e != api.OK {
		t.Error("Count:", c, e)
	}
	if l, e := sentence.Trees(g, 0, nil, 0); len(l) != 0 || e != api.OK {
		t.Error("Trees:", len(l), e)
	}
	if l, e := sentence.Trees(g, 0, []int{0}, 1); len(l) != 0 || e != api.OK {
		t.Error("Trees:", len(l), e)
	}
	if l, e := sentence.Trees(g, api.MaxNons-3, nil, 9); len(l) != 1 || e != api.OK || len(trees.Left(l[0])) != 1+16+256 {
		t.Error("Trees:", len(l), e)
	}
	if l, e := sentence.Words(g, 0, 0, 9); !sameWords(l, [][]int{nil}) || e != api.OK {
		t.Error("Words:", l, e)
	}
	if l, e := sentence.Shortest(g, 0); len(l) != 0 || e != api.OK {
		t.Error("Shortest:", l, e)
	}
}
