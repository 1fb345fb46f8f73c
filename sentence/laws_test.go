package sentence_test

import (
	"math/rand"
	"reflect"
	"slices"
	"testing"

	"gantry/api"
	"gantry/grammar"
	"gantry/sentence"
	"gantry/trees"
	"gantry/trim"
)

// P9.3, P9.6: what Trees tells is right, unlike, and rises; of grammars with many words of all lengths.
func TestTreesLaws(t *testing.T) {
	r := rand.New(rand.NewSource(930))
	told := 0
	for range 2500 {
		g := anyGrammar(r, 2, 4, 10, 4)
		if len(must(trim.Circular(g))) > 0 {
			continue
		}
		n := r.Intn(len(g.Nons))
		for _, w := range must(sentence.Words(g, n, r.Intn(12), 4)) {
			l := must(sentence.Trees(g, n, w, 150))
			if c := must(sentence.Count(g, n, w)); len(l) != min(c, 150) || c == 0 {
				t.Fatal("as many:", g.Prods, w, len(l), c)
			}
			for i, x := range l {
				told++
				if e, _ := trees.Check(g, x); e != api.OK || must(trees.Root(g, x)) != non(n) || !slices.Equal(kinds(x), w) {
					t.Fatal("no tree of the word:", g.Prods, w, x, e)
				}
				if i == 0 {
					continue
				}
				if c, e := sentence.Compare(g, l[i-1], x); c != -1 || e != api.OK || trees.Same(l[i-1], x) {
					t.Fatal("does not rise:", g.Prods, w, i, c, e)
				}
			}
		}
	}
	if told < 5000 {
		t.Error("too few:", told)
	}
}

// P9.6: Compare is an order: both ways it tells the same, and of three trees the middle one stands in the middle.
func TestCompareIsAnOrder(t *testing.T) {
	r := rand.New(rand.NewSource(960))
	g := grammarOf(1, 2, 0, prod(0, non(0), non(0), non(1)), prod(0, term(0)), prod(1), prod(1, term(0), non(1)), prod(0, non(1), term(0), non(0)))
	if e, at := grammar.Check(g); e != api.OK {
		t.Fatal(e, at)
	}
	l := must(sentence.Trees(g, 0, make([]int, 7), 4096))
	if len(l) < 500 {
		t.Fatal("too few:", len(l))
	}
	for range 20000 {
		i, j := r.Intn(len(l)), r.Intn(len(l))
		want := 0
		if i != j {
			want = (i - j) / max(i-j, j-i)
		}
		if c := must(sentence.Compare(g, l[i], l[j])); c != want {
			t.Fatal(i, j, c)
		}
	}
}

// P9.4: a word is among Words just if it has a tree; Shortest has the length that Lengths tells, and is the first.
func TestWordsLaws(t *testing.T) {
	r := rand.New(rand.NewSource(940))
	in, out := 0, 0
	for range 1500 {
		g := anyGrammar(r, 2, 3, 8, 3)
		if len(must(trim.Circular(g))) > 0 {
			continue
		}
		lengths := must(sentence.Lengths(g))
		for n := range g.Nons {
			for length := range 7 {
				words := must(sentence.Words(g, n, length, 4096))
				if !slices.IsSortedFunc(words, slices.Compare) || length < lengths[n] && len(words) > 0 || length == lengths[n] && len(words) == 0 {
					t.Fatal(g.Prods, n, length, words, lengths)
				}
				eachWord(len(g.Terms), length, func(w []int) {
					if len(w) < length {
						return
					}
					_, found := slices.BinarySearchFunc(words, w, slices.Compare)
					if found != (must(sentence.Count(g, n, w)) > 0) {
						t.Fatal(g.Prods, n, w, found)
					}
					if found {
						in++
					} else {
						out++
					}
				})
				if length == lengths[n] && !slices.Equal(must(sentence.Shortest(g, n)), words[0]) {
					t.Fatal("Shortest:", g.Prods, n, words[0])
				}
			}
		}
	}
	if in < 5000 || out < 5000 {
		t.Error("too few:", in, out)
	}
}

// P9.5: every beginning of a word is one; what is no beginning of what goes on is none.
func TestBeginsLaws(t *testing.T) {
	r := rand.New(rand.NewSource(950))
	asked := 0
	for range 800 {
		g := anyGrammar(r, 3, 4, 10, 3)
		for _, w := range must(sentence.Words(g, g.Start, 5+r.Intn(20), 5)) {
			for i := range len(w) + 1 {
				asked++
				if !must(sentence.Begins(g, w[:i])) {
					t.Fatal(g.Prods, g.Start, w, i)
				}
			}
		}
		// What begins goes on, or is a word; what does not, does not go on.
		eachWord(len(g.Terms), 3, func(w []int) {
			goesOn := len(must(sentence.Words(g, g.Start, len(w), 4096))) > 0 &&
				slices.ContainsFunc(must(sentence.Words(g, g.Start, len(w), 4096)), func(v []int) bool { return slices.Equal(v, w) })
			for n := range g.Terms {
				goesOn = must(sentence.Begins(g, append(slices.Clone(w), n))) || goesOn
			}
			if goesOn != must(sentence.Begins(g, w)) {
				t.Fatal(g.Prods, g.Start, w, goesOn)
			}
		})
	}
	if asked < 3000 {
		t.Error("too few:", asked)
	}
}

// doubling has the nonterminals n0: a, n1: n0 n0, n2: n1 n1 .., and a last one that gives what is handed in.
func doubling(doubles int, last ...api.Sym) api.Grammar {
	g := grammarOf(1, doubles+2, doubles+1, prod(0, term(0)))
	for n := range doubles {
		g.Prods = append(g.Prods, prod(n+1, non(n), non(n)))
	}
	g.Prods = append(g.Prods, prod(doubles+1, last...))
	return g
}

// P9.1: lengths at the cap, and far above it.
func TestLengthsCap(t *testing.T) {
	var l []api.Sym // 2^15 + .. + 2^30
	for n := 15; n <= 30; n++ {
		l = append(l, non(n))
	}
	g := doubling(30, l...)
	if got := must(sentence.Lengths(g)); got[31] != 1<<31-1<<15 || got[30] != 1<<30 {
		t.Error(got)
	}
	g.Nons = append(g.Nons, "rest", "one", "two", "three")
	var rest []api.Sym // 2^0 + .. + 2^14
	for n := range 15 {
		rest = append(rest, non(n))
	}
	g.Prods = append(g.Prods,
		prod(32, append(rest[1:], non(31))...), // 2^31 - 2
		prod(33, non(32), term(0)),             // 2^31 - 1
		prod(34, non(32), term(0), term(0)),    // 2^31
		prod(35, non(33), non(34)), prod(35, non(34), non(34)))
	if got := must(sentence.Lengths(g)); got[32] != 1<<31-2 || got[33] != 1<<31-1 || got[34] != 1<<31-1 || got[35] != 1<<31-1 {
		t.Error(got)
	}
	g.Prods = append(g.Prods, prod(35, non(30), non(30)), prod(35, non(29), non(29), term(0))) // what is capped does not hide what is shorter
	if got := must(sentence.Lengths(g)); got[35] != 1<<30+1 || !slices.Equal(got, modelLengths(g)) {
		t.Error(got)
	}
	if l, e := sentence.Shortest(g, 35); l != nil || e != api.ErrLong {
		t.Error("Shortest:", l, e)
	}
	far := grammarOf(1, api.MaxNons, 0)
	for n := range api.MaxNons - 1 {
		far.Prods = append(far.Prods, prod(n, slices.Repeat(syms(non(n+1)), api.MaxRight)...))
	}
	far.Prods = append(far.Prods, prod(api.MaxNons-1, term(0)))
	if got := must(sentence.Lengths(far)); got[0] != 1<<31-1 || got[56] != 1<<28 || got[55] != 1<<31-1 || got[63] != 1 {
		t.Error(got)
	}
	if b := must(sentence.Begins(far, make([]int, 64))); !b {
		t.Error("Begins of what is far")
	}
	if c := must(sentence.Count(far, 62, make([]int, 16))); c != 1 {
		t.Error("Count:", c)
	}
}

// P9.1: words of MaxLength are told and are shortest ones; those of one more are too long.
func TestLongWords(t *testing.T) {
	fits := doubling(6, non(6))
	long := doubling(6, non(6), term(0))
	w := make([]int, 64)
	if l, e := sentence.Shortest(fits, 7); e != api.OK || !slices.Equal(l, w) {
		t.Error("Shortest:", l, e)
	}
	if l, e := sentence.Shortest(long, 7); e != api.ErrLong || l != nil {
		t.Error("Shortest:", l, e)
	}
	for _, c := range []struct {
		grammar api.Grammar
		length  int
		want    [][]int
	}{{fits, 64, [][]int{w}}, {fits, 63, nil}, {long, 64, nil}, {long, 0, nil}} {
		if l, e := sentence.Words(c.grammar, 7, c.length, 4096); e != api.OK || !sameWords(l, c.want) {
			t.Error("Words:", c.length, l, e)
		}
	}
	if c, e := sentence.Count(fits, 7, w); c != 1 || e != api.OK {
		t.Error("Count:", c, e)
	}
	if b, e := sentence.Begins(long, w); !b || e != api.OK {
		t.Error("Begins:", b, e)
	}
}

// counting is the words of a length over so many terminals, in their order: the first so many.
func counting(terms, length, most int) [][]int {
	var l [][]int
	w := make([]int, length)
	for len(l) < most {
		l = append(l, slices.Clone(w))
		at := length - 1
		for ; at >= 0 && w[at] == terms-1; at-- {
			w[at] = 0
		}
		if at < 0 {
			break
		}
		w[at]++
	}
	return l
}

// P9.1: all words of all terminals; words whose second half is the first in a mirror; brackets. The first and most of them.
func TestWordsInOrder(t *testing.T) {
	for _, c := range []struct{ terms, length, most int }{{64, 64, 4096}, {2, 12, 4096}, {2, 11, 4096}, {3, 64, 100}, {1, 64, 9}, {64, 2, 4096}, {64, 2, 4095}, {5, 0, 1}} {
		// By every bracketing, and with what may be empty on both sides.
		g := grammarOf(c.terms, 2, 0, prod(0, non(0), non(0)), prod(0, non(1), non(0), non(1)), prod(0), prod(1))
		for n := range c.terms {
			g.Prods = append(g.Prods, prod(0, term(n)))
		}
		l, e := sentence.Words(g, 0, c.length, c.most)
		if e != api.OK || !sameWords(l, counting(c.terms, c.length, c.most)) {
			t.Error(c, len(l), e)
		}
	}
	mirrors := grammarOf(2, 1, 0, prod(0, term(0), non(0), term(0)), prod(0, term(1), non(0), term(1)), prod(0))
	l := must(sentence.Words(mirrors, 0, 64, 4096))
	for i, half := range counting(2, 32, 4096) {
		back := slices.Clone(half)
		slices.Reverse(back)
		if !slices.Equal(l[i], append(half, back...)) {
			t.Fatal(i, l[i])
		}
	}
	brackets := grammarOf(2, 1, 0, prod(0, term(0), non(0), term(1), non(0)), prod(0))
	if n := len(must(sentence.Words(brackets, 0, 18, 4096))); n != 4096 {
		t.Error(n)
	}
	if n := len(must(sentence.Words(brackets, 0, 16, 4096))); n != 1430 {
		t.Error(n)
	}
}

// greatGrammar has as much of all as there may be.
func greatGrammar(r *rand.Rand, terms int, anySym func() api.Sym, right int) api.Grammar {
	g := grammarOf(terms, api.MaxNons, 0)
	for n := range api.MaxNons {
		g.Prods = append(g.Prods, prod(n, term(n%terms)))
	}
	for len(g.Prods) < api.MaxProds {
		p := prod(r.Intn(api.MaxNons))
		for range right {
			p.Right = append(p.Right, anySym())
		}
		g.Prods = withProd(g.Prods, p)
	}
	return g
}

// P9.1: the greatest grammars, long words, as many as may be: all is answered, and soon.
func TestGreatestGrammars(t *testing.T) {
	r := rand.New(rand.NewSource(960))
	anyNon := func() api.Sym { return non(r.Intn(api.MaxNons)) }
	seldom := func() api.Sym {
		if r.Intn(4) == 0 {
			return anyNon()
		}
		return term(r.Intn(api.MaxTerms))
	}
	for _, g := range []api.Grammar{
		greatGrammar(r, 1, anyNon, 16), greatGrammar(r, 64, anyNon, 2), greatGrammar(r, 64, seldom, 16), greatGrammar(r, 2, anyNon, 16),
	} {
		if e, at := grammar.Check(g); e != api.OK {
			t.Fatal(e, at)
		}
		words := 0
		for _, length := range []int{16, 31, 46, 61, 64} {
			l := must(sentence.Words(g, 0, length, 200))
			if len(l) == 0 {
				continue
			}
			words += len(l)
			last := l[len(l)-1]
			if n := must(sentence.Count(g, 0, last)); n == 0 || len(must(sentence.Trees(g, 0, last, 50))) != min(n, 50) {
				t.Error("no trees of", last)
			}
			if !must(sentence.Begins(g, last)) {
				t.Error("no beginning:", last)
			}
		}
		if words == 0 {
			t.Error("no words")
		}
	}
}

// P9.1: rests with moderately many trees in very many places.
func TestManyParts(t *testing.T) {
	r := rand.New(rand.NewSource(961))
	for _, empty := range []bool{false, true} {
		g := grammarOf(1, api.MaxNons, 0)
		for n := 1; n <= 30; n++ {
			g.Prods = append(g.Prods, prod(n, term(0), non(n)))
			if empty {
				g.Prods = append(g.Prods, prod(n))
			} else {
				g.Prods = append(g.Prods, prod(n, term(0)))
			}
		}
		for len(g.Prods) < api.MaxProds {
			p := prod(0)
			for range api.MaxRight {
				p.Right = append(p.Right, non(1+r.Intn(30)))
			}
			g.Prods = withProd(g.Prods, p)
		}
		w := make([]int, 64)
		if n := must(sentence.Count(g, 0, w)); n != 4097 {
			t.Error(n)
		}
		l := must(sentence.Trees(g, 0, w, 4096))
		for i := 1; i < len(l); i += 9 {
			if c, e := sentence.Compare(g, l[i-1], l[i]); c != -1 || e != api.OK {
				t.Fatal(i, c, e)
			}
		}
	}
}

// widen is a list with spare room behind it, all of it marked.
func widen[T any](l []T, mark T) []T {
	out := append(slices.Clone(l), mark, mark, mark)
	return out[:len(l):len(out)]
}

// roomyGrammar is a grammar with spare room behind each list.
func roomyGrammar(g api.Grammar) api.Grammar {
	g.Terms, g.Nons = widen(g.Terms, "spare"), widen(g.Nons, "spare")
	g.Levels = widen([]api.Level{{Assoc: api.AssocLeft, Terms: widen([]int{0}, 7)}}, api.Level{})
	g.Prods = widen(g.Prods, prod(77, term(77)))
	for i := range g.Prods {
		g.Prods[i].Right = widen(g.Prods[i].Right, term(77))
	}
	return g
}

// shownGrammar is all that a grammar's lists hold, spare room too, in memory of its own.
func shownGrammar(g api.Grammar) api.Grammar {
	g.Terms, g.Nons = slices.Clone(g.Terms[:cap(g.Terms)]), slices.Clone(g.Nons[:cap(g.Nons)])
	g.Levels = slices.Clone(g.Levels[:cap(g.Levels)])
	for i, v := range g.Levels {
		g.Levels[i].Terms = slices.Clone(v.Terms[:cap(v.Terms)])
	}
	g.Prods = slices.Clone(g.Prods[:cap(g.Prods)])
	for i := range g.Prods {
		g.Prods[i].Right = slices.Clone(g.Prods[i].Right[:cap(g.Prods[i].Right)])
	}
	return g
}

// roomy is a tree with spare room behind each list of kids, all of it marked.
func roomy(t api.Tree) api.Tree {
	var kids []api.Tree
	for _, kid := range t.Kids {
		kids = append(kids, roomy(kid))
	}
	t.Kids = widen(kids, node(77, leaf(77)))
	return t
}

// shown is all that a tree's lists hold, spare room too, in memory of its own.
func shown(t api.Tree) api.Tree {
	t.Kids = slices.Clone(t.Kids[:cap(t.Kids)])
	for i, kid := range t.Kids {
		t.Kids[i] = shown(kid)
	}
	return t
}

// P9.7: no call changes what is handed in, spare room too.
func TestArgumentsAreLeft(t *testing.T) {
	r := rand.New(rand.NewSource(970))
	compared := 0
	for range 400 {
		g := roomyGrammar(anyGrammar(r, 3, 3, 8, 3))
		was := shownGrammar(g)
		n := r.Intn(len(g.Nons))
		sentence.Lengths(g)
		sentence.Shortest(g, n)
		words := must(sentence.Words(g, n, r.Intn(6), 5))
		for _, w := range append(words, nil, []int{0, 1, 2, 0}) {
			w := widen(w, 5)
			wasW := slices.Clone(w[:cap(w)])
			sentence.Count(g, n, w)
			sentence.Begins(g, w)
			l, _ := sentence.Trees(g, n, w, 3)
			if !slices.Equal(w[:cap(w)], wasW) {
				t.Fatal("a word was changed")
			}
			for i := range l {
				a, b := roomy(l[0]), roomy(l[i])
				wasA, wasB := shown(a), shown(b)
				sentence.Compare(g, a, b)
				compared++
				if !reflect.DeepEqual(shown(a), wasA) || !reflect.DeepEqual(shown(b), wasB) {
					t.Fatal("a tree was changed")
				}
			}
		}
		if !reflect.DeepEqual(shownGrammar(g), was) {
			t.Fatal("a grammar was changed")
		}
	}
	if compared < 100 {
		t.Error("too few:", compared)
	}
}

// rowsOf are all lists of kids in a tree, spare room too.
func rowsOf(t api.Tree) [][]api.Tree {
	all := [][]api.Tree{t.Kids[:cap(t.Kids)]}
	for _, kid := range t.Kids {
		all = append(all, rowsOf(kid)...)
	}
	return all
}

// apart tells whether no two of the lists share memory, spare room too: each is marked, and then asked for its mark.
func apart[T any](all [][]T, mark func(int) T, marked func(T) int) bool {
	for i, l := range all {
		for k := range l[:cap(l)] {
			l[:cap(l)][k] = mark(i)
		}
	}
	for i, l := range all {
		for _, x := range l[:cap(l)] {
			if marked(x) != i {
				return false
			}
		}
	}
	return true
}

func apartLists(all [][]int) bool {
	return apart(all, func(i int) int { return i }, func(n int) int { return n })
}

func apartRows(all [][]api.Tree) bool {
	return apart(all, func(i int) api.Tree { return node(i) }, func(t api.Tree) int { return t.Prod })
}

// P9.7: answers share memory neither with arguments nor with one another, nor do two lists of one.
func TestAnswersShareNothing(t *testing.T) {
	r := rand.New(rand.NewSource(971))
	many := 0
	for range 400 {
		g := roomyGrammar(anyGrammar(r, 2, 3, 8, 3))
		was := shownGrammar(g)
		n := r.Intn(len(g.Nons))
		length := r.Intn(7)
		words, again := must(sentence.Words(g, n, length, 40)), must(sentence.Words(g, n, length, 40))
		kept := make([][]int, len(words))
		for i, w := range words {
			kept[i] = slices.Clone(w)
		}
		shortest, _ := sentence.Shortest(g, n)
		other, _ := sentence.Shortest(g, n)
		if !apartLists(append(words, shortest, must(sentence.Lengths(g)), must(sentence.Lengths(g)), other)) {
			t.Fatal("two lists share memory")
		}
		if !sameWords(again, kept) || !sameWords(must(sentence.Words(g, n, length, 40)), kept) {
			t.Fatal("two answers share memory")
		}
		for _, w := range kept[:min(len(kept), 3)] {
			l, _ := sentence.Trees(g, n, w, 6)
			m, _ := sentence.Trees(g, n, w, 6)
			all := [][]api.Tree{l[:cap(l)]}
			for _, x := range l {
				all = append(all, rowsOf(x)...)
			}
			for _, x := range m {
				all = append(all, rowsOf(x)...)
			}
			many = max(many, len(all))
			if !apartRows(append(all, m[:cap(m)])) {
				t.Fatal("two lists of kids share memory")
			}
		}
		if !reflect.DeepEqual(shownGrammar(g), was) {
			t.Fatal("an answer shares memory with an argument")
		}
	}
	if many < 30 {
		t.Error("too few:", many)
	}
}

// P9.7: a word that is handed in may be changed behind the call.
func TestAnswersStay(t *testing.T) {
	w := []int{1, 0, 1, 0, 1}
	l := must(sentence.Trees(sums(), 0, w, 9))
	clear(w)
	for _, x := range l {
		if !slices.Equal(kinds(x), []int{1, 0, 1, 0, 1}) {
			t.Error(x)
		}
	}
}

// P3: what is answered hangs on the arguments alone, not on the order of a map.
func TestSameAgain(t *testing.T) {
	g := grammarOf(1, 2, 0, prod(0, non(0), non(0), non(1)), prod(0, term(0)), prod(1), prod(1, term(0), non(1)))
	w := make([]int, 12)
	l := must(sentence.Trees(g, 0, w, 800))
	for range 5 {
		if !slices.EqualFunc(l, must(sentence.Trees(g, 0, w, 800)), sameTree) {
			t.Fatal("another answer")
		}
	}
}
