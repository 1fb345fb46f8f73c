package sentence_test

import (
	"math"
	"math/rand"
	"slices"
	"testing"

	"gantry/api"
	"gantry/grammar"
	"gantry/sentence"
	"gantry/trim"
)

// sums is E -> E + E, E -> n; + is 0, n is 1.
func sums() api.Grammar {
	return grammarOf(2, 1, 0, prod(0, non(0), term(0), non(0)), prod(0, term(1)))
}

func must[T any](x T, e api.Errno) T {
	if e != api.OK {
		panic(e)
	}
	return x
}

// The chapter's examples.
func TestExamples(t *testing.T) {
	g, w := sums(), []int{1, 0, 1, 0, 1}
	n := node(1, leaf(1))
	pair := node(0, n, leaf(0), n)
	toRight, toLeft := node(0, n, leaf(0), pair), node(0, pair, leaf(0), n)
	if c, e := sentence.Count(g, 0, w); c != 2 || e != api.OK {
		t.Error("Count:", c, e)
	}
	if l, e := sentence.Trees(g, 0, w, 9); e != api.OK || !slices.EqualFunc(l, []api.Tree{toRight, toLeft}, sameTree) {
		t.Error("Trees:", l, e)
	}
	if l, e := sentence.Words(g, 0, 3, 9); e != api.OK || !sameWords(l, [][]int{{1, 0, 1}}) {
		t.Error("Words:", l, e)
	}
	if l, e := sentence.Shortest(g, 0); e != api.OK || !slices.Equal(l, []int{1}) {
		t.Error("Shortest:", l, e)
	}
	if b, e := sentence.Begins(g, []int{1, 0}); e != api.OK || !b {
		t.Error("Begins:", b, e)
	}
	if b, e := sentence.Begins(g, []int{0}); e != api.OK || b {
		t.Error("Begins:", b, e)
	}
	if c, e := sentence.Compare(g, toRight, toLeft); c != -1 || e != api.OK {
		t.Error("Compare:", c, e)
	}
	if c, e := sentence.Compare(g, toLeft, toRight); c != 1 || e != api.OK {
		t.Error("Compare:", c, e)
	}
}

// heldWords asks Words, Shortest and Lengths against all words that there are of at most so many terminals.
func heldWords(t *testing.T, g api.Grammar, longest int) {
	t.Helper()
	all, want := modelWords(g, longest), modelLengths(g)
	got, e := sentence.Lengths(g)
	if e != api.OK || !slices.Equal(got, want) {
		t.Fatal("Lengths:", g.Prods, got, e, want)
	}
	for n := range g.Nons {
		for length := range longest + 1 {
			words := ofLength(all[n], length)
			for _, most := range []int{0, 1, 2, len(words), len(words) + 1} {
				l, e := sentence.Words(g, n, length, most)
				if e != api.OK || !sameWords(l, words[:min(most, len(words))]) {
					t.Fatal("Words:", g.Prods, n, length, most, l, e, words)
				}
			}
			if want[n] > length && len(words) > 0 {
				t.Fatal("a shorter word:", g.Prods, n, want, words)
			}
		}
		heldShortest(t, g, n, want[n], all[n], longest)
	}
}

func heldShortest(t *testing.T, g api.Grammar, n, length int, all texts, longest int) {
	t.Helper()
	l, e := sentence.Shortest(g, n)
	switch {
	case length < 0:
		if e != api.ErrBarren || l != nil {
			t.Fatal("barren:", g.Prods, n, l, e)
		}
	case length > 64:
		if e != api.ErrLong || l != nil {
			t.Fatal("too long:", g.Prods, n, l, e)
		}
	case length <= longest:
		if want := ofLength(all, length); e != api.OK || !slices.Equal(l, want[0]) {
			t.Fatal("Shortest:", g.Prods, n, l, e, want)
		}
	case e != api.OK || len(l) != length:
		t.Fatal("Shortest:", g.Prods, n, l, e, length)
	}
}

// heldBegins asks Begins of all lists of at most so many terminals.
func heldBegins(t *testing.T, g api.Grammar, longest int) (yes, no int) {
	t.Helper()
	want := modelBeginnings(g, longest)[g.Start]
	eachWord(len(g.Terms)+1, longest, func(w []int) { // the end marker's number, too
		got, e := sentence.Begins(g, w)
		if e != api.OK || got != want[text(w)] {
			t.Fatal("Begins:", g.Prods, g.Start, w, got, e)
		}
		if got {
			yes++
		} else {
			no++
		}
	})
	return yes, no
}

// heldTrees asks Count and Trees of every word of at most so many terminals. It answers how many trees there were.
func heldTrees(t *testing.T, g api.Grammar, longest int) int {
	t.Helper()
	all := 0
	if len(must(trim.Circular(g))) > 0 {
		for n := range g.Nons {
			c, e := sentence.Count(g, n, nil)
			l, f := sentence.Trees(g, n, nil, 1)
			if c != 0 || e != api.ErrCycle || l != nil || f != api.ErrCycle {
				t.Fatal("circular:", g.Prods, c, e, l, f)
			}
		}
		return 0
	}
	eachWord(len(g.Terms), longest, func(w []int) {
		for n := range g.Nons {
			want := modelTrees(g, n, w)
			all += len(want)
			if c, e := sentence.Count(g, n, w); e != api.OK || c != min(len(want), 4097) {
				t.Fatal("Count:", g.Prods, n, w, c, e, len(want))
			}
			for _, most := range []int{0, 1, 2, len(want) / 2, len(want), len(want) + 1} {
				most = min(most, 4096)
				l, e := sentence.Trees(g, n, w, most)
				if e != api.OK || !slices.EqualFunc(l, want[:min(most, len(want))], sameTree) {
					t.Fatal("Trees:", g.Prods, n, w, most, l, e, want)
				}
			}
		}
	})
	return all
}

// P9.1: every grammar of one terminal, two nonterminals and at most three short productions.
func TestSmallGrammars(t *testing.T) {
	trees, yes, no := 0, 0, 0
	eachSmall(1, 2, func(g api.Grammar) {
		for g.Start = range 2 {
			y, n := heldBegins(t, g, 3)
			yes, no = yes+y, no+n
		}
		heldWords(t, g, 5)
		trees += heldTrees(t, g, 4)
	})
	if trees < 3000 || yes < 3000 || no < 3000 {
		t.Error("too few:", trees, yes, no)
	}
}

// P9.1: two terminals and one nonterminal, likewise.
func TestSmallGrammarsOfOne(t *testing.T) {
	trees, yes, no := 0, 0, 0
	eachSmall(2, 1, func(g api.Grammar) {
		y, n := heldBegins(t, g, 4)
		yes, no = yes+y, no+n
		heldWords(t, g, 5)
		trees += heldTrees(t, g, 4)
	})
	if trees < 1000 || yes < 1000 || no < 1000 {
		t.Error("too few:", trees, yes, no)
	}
}

// P9.1: greater grammars.
func TestGreaterGrammars(t *testing.T) {
	r := rand.New(rand.NewSource(91))
	trees, yes, no := 0, 0, 0
	for range 500 {
		g := anyGrammar(r, 3, 4, 10, 3)
		y, n := heldBegins(t, g, 4)
		yes, no = yes+y, no+n
		heldWords(t, g, 5)
		trees += heldTrees(t, g, 3)
	}
	if trees < 1500 || yes < 3000 || no < 3000 {
		t.Error("too few:", trees, yes, no)
	}
}

// P9.1: long right sides.
func TestLongRights(t *testing.T) {
	r := rand.New(rand.NewSource(92))
	for range 300 {
		g := anyGrammar(r, 2, 3, 5, 7)
		heldBegins(t, g, 5)
		heldWords(t, g, 6)
		heldTrees(t, g, 3)
	}
}

func FuzzGrammars(f *testing.F) {
	f.Add([]byte{1, 2, 0, 0, 4, 1, 4, 1, 1, 2}, []byte{1, 0, 1})
	f.Add([]byte{2, 1, 0, 0, 2, 0, 2, 0, 0}, []byte{0, 0})
	f.Fuzz(func(t *testing.T, b, word []byte) {
		next := func(below int) int {
			if len(b) == 0 {
				return 0
			}
			n := int(b[0]) % below
			b = b[1:]
			return n
		}
		g := grammarOf(1+next(3), 1+next(4), 0)
		g.Start = next(len(g.Nons))
		for len(b) > 0 && len(g.Prods) < 10 {
			p := prod(next(len(g.Nons)))
			for range next(4) {
				if n := next(len(g.Terms) + len(g.Nons)); n < len(g.Terms) {
					p.Right = append(p.Right, term(n))
				} else {
					p.Right = append(p.Right, non(n-len(g.Terms)))
				}
			}
			g.Prods = withProd(g.Prods, p)
		}
		if len(g.Prods) == 0 {
			return
		}
		heldWords(t, g, 4)
		heldBegins(t, g, 3)
		heldTrees(t, g, 2)
		w := list(string(word[:min(len(word), 4)]))
		if len(must(trim.Circular(g))) == 0 {
			if c, want := must(sentence.Count(g, g.Start, w)), modelTrees(g, g.Start, w); c != min(len(want), 4097) {
				t.Fatal(g.Prods, w, c, len(want))
			}
		}
	})
}

// wrongGrammars break grammar.Check in several ways.
func wrongGrammars() []api.Grammar {
	noStart := sums()
	noStart.Start = 9
	twice := grammarOf(1, 1, 0, prod(0, term(0)), prod(0, term(0)))
	symbol := grammarOf(1, 1, 0, prod(0), prod(0, term(1)))
	return []api.Grammar{{}, grammarOf(1, 1, 0), noStart, twice, symbol}
}

// P9.1, P9.2: a grammar that may not be goes ahead of all else, and nothing is answered beside it.
func TestWrongGrammars(t *testing.T) {
	for _, g := range wrongGrammars() {
		want, _ := grammar.Check(g)
		for _, n := range []int{0, -1, 9} {
			for _, w := range [][]int{nil, {0}, make([]int, 65)} {
				if c, e := sentence.Count(g, n, w); c != 0 || e != want {
					t.Error("Count:", c, e, want)
				}
				if l, e := sentence.Trees(g, n, w, -1); l != nil || e != want {
					t.Error("Trees:", l, e, want)
				}
				if b, e := sentence.Begins(g, w); b || e != want {
					t.Error("Begins:", b, e, want)
				}
			}
			if l, e := sentence.Words(g, n, -1, -1); l != nil || e != want {
				t.Error("Words:", l, e, want)
			}
			if l, e := sentence.Shortest(g, n); l != nil || e != want {
				t.Error("Shortest:", l, e, want)
			}
		}
		if l, e := sentence.Lengths(g); l != nil || e != want {
			t.Error("Lengths:", l, e, want)
		}
		if c, e := sentence.Compare(g, api.Tree{Prod: 9}, leaf(9)); c != 0 || e != want {
			t.Error("Compare:", c, e, want)
		}
	}
}

// outside are numbers that nothing of a grammar of two nonterminals has.
func outside() []int { return []int{-1, 2, 64, math.MinInt, math.MaxInt} }

// P9.1: of what is asked of trees the first fault is told, whatever comes behind it.
func TestTreesErrors(t *testing.T) {
	well := grammarOf(1, 2, 0, prod(0, term(0), non(1)), prod(1))
	circular := grammarOf(1, 2, 0, prod(0, term(0)), prod(1, non(1))) // one that start does not reach, and is barren
	fits, long := make([]int, 64), make([]int, 65)
	mosts := []int{0, 4096, -1, 4097, math.MinInt, math.MaxInt}
	for _, g := range []api.Grammar{well, circular} {
		for _, n := range append(outside(), 0, 1) {
			for _, w := range [][]int{nil, fits, long, make([]int, 100)} {
				want := api.OK
				switch {
				case n != 0 && n != 1:
					want = api.ErrRange
				case len(g.Prods[1].Right) > 0:
					want = api.ErrCycle
				case len(w) > 64:
					want = api.ErrLong
				}
				if c, e := sentence.Count(g, n, w); e != want || e != api.OK && c != 0 {
					t.Error("Count:", g.Prods, n, len(w), c, e, want)
				}
				for _, most := range mosts {
					want := want
					if want == api.OK && (most < 0 || most > 4096) {
						want = api.ErrRange
					}
					if l, e := sentence.Trees(g, n, w, most); e != want || e != api.OK && l != nil {
						t.Error("Trees:", g.Prods, n, len(w), most, l, e, want)
					}
				}
			}
		}
	}
}

// P9.1: what is asked of words.
func TestWordsErrors(t *testing.T) {
	g := grammarOf(1, 2, 0, prod(0, term(0), non(0)), prod(0)) // 1 is barren
	for _, n := range append(outside(), 0, 1) {
		for _, length := range []int{0, 64, -1, 65, math.MinInt, math.MaxInt} {
			for _, most := range []int{0, 1, 4096, -1, 4097, math.MinInt, math.MaxInt} {
				want := api.OK
				if n != 0 && n != 1 || length != 0 && length != 64 || most < 0 || most > 4096 {
					want = api.ErrRange
				}
				l, e := sentence.Words(g, n, length, most)
				if e != want || (len(l) > 0) != (e == api.OK && n == 0 && most > 0) {
					t.Error("Words:", n, length, most, l, e, want)
				}
			}
		}
	}
	for _, n := range outside() {
		if l, e := sentence.Shortest(g, n); e != api.ErrRange || l != nil {
			t.Error("Shortest:", n, l, e)
		}
	}
	if l, e := sentence.Shortest(g, 1); e != api.ErrBarren || l != nil {
		t.Error("Shortest:", l, e)
	}
}

// P9.1: numbers that are no terminal's.
func TestStrangeNumbers(t *testing.T) {
	g := grammarOf(2, 1, 0, prod(0, term(0), non(0)), prod(0))
	for _, strange := range []int{-1, 2, 3, 63, 64, 256, 1 << 32, math.MinInt, math.MaxInt} {
		for _, w := range [][]int{{strange}, {0, strange}, {strange, 0}, {0, 0, strange, 0}} {
			if c, e := sentence.Count(g, 0, w); c != 0 || e != api.OK {
				t.Error("Count:", w, c, e)
			}
			if l, e := sentence.Trees(g, 0, w, 9); len(l) != 0 || e != api.OK {
				t.Error("Trees:", w, l, e)
			}
			if b, e := sentence.Begins(g, w); b || e != api.OK {
				t.Error("Begins:", w, b, e)
			}
		}
	}
}

// P9.1: Begins of long lists, and of a barren start.
func TestBeginsEdges(t *testing.T) {
	g := grammarOf(2, 1, 0, prod(0, term(0), non(0)), prod(0, term(1)))
	for length := range 80 {
		w := make([]int, length)
		if b, e := sentence.Begins(g, w); length <= 64 && (!b || e != api.OK) || length > 64 && (b || e != api.ErrLong) {
			t.Error(length, b, e)
		}
		if length > 1 {
			w[length-2] = 1 // something comes behind the end
			if b, _ := sentence.Begins(g, w); b {
				t.Error("behind the end:", length)
			}
		}
	}
	barren := grammarOf(1, 2, 0, prod(0, term(0), non(0)), prod(1, term(0)))
	for _, w := range [][]int{nil, {0}, {0, 0}} {
		if b, e := sentence.Begins(barren, w); b || e != api.OK {
			t.Error("barren:", w, b, e)
		}
	}
	// Of a production with a barren symbol nothing begins, and a word need not be short: here none has fewer than 100.
	far := grammarOf(2, 3, 0, prod(0, term(0), non(1)), prod(0, term(1), non(2), non(2), non(2), non(2), non(2), non(2), non(2), non(2), non(2), non(2)),
		prod(2, term(0), term(0), term(0), term(0), term(0), term(0), term(0), term(0), term(0), term(0)))
	for _, c := range []struct {
		word []int
		want bool
	}{{nil, true}, {[]int{0}, false}, {[]int{1}, true}, {append([]int{1}, make([]int, 63)...), true}, {[]int{1, 1}, false}} {
		if b, e := sentence.Begins(far, c.word); b != c.want || e != api.OK {
			t.Error("far:", c.word, b, e)
		}
	}
	if l, e := sentence.Shortest(far, 0); e != api.ErrLong || l != nil {
		t.Error("far:", l, e)
	}
}
