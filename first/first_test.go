package first_test

import (
	"math"
	"math/rand"
	"slices"
	"testing"

	"gantry/api"
	"gantry/first"
	"gantry/grammar"
)

// optional is S → A B, A → a, A → nothing, B → b, B → nothing.
func optional() api.Grammar {
	return grammarOf(2, 3, 0, prod(0, non(1), non(2)), prod(1, term(0)), prod(1), prod(2, term(1)), prod(2))
}

// heldAgainstModel asks the four calls that have a grammar alone.
func heldAgainstModel(t *testing.T, g api.Grammar) {
	t.Helper()
	if got, e := first.Nullable(g); e != api.OK || !slices.Equal(got, leastNullable(g)) {
		t.Fatalf("Nullable of %v: %v, %v", g.Prods, got, e)
	}
	if got, e := first.First(g); e != api.OK || !sameLists(got, leastFirst(g)) {
		t.Fatalf("First of %v: %v, %v", g.Prods, got, e)
	}
	if got, e := first.Follow(g); e != api.OK || !sameLists(got, leastFollow(g)) {
		t.Fatalf("Follow of %v from %d: %v, %v", g.Prods, g.Start, got, e)
	}
	if got, e := first.Heights(g); e != api.OK || !slices.Equal(got, modelHeights(g)) {
		t.Fatalf("Heights of %v: %v, %v", g.Prods, got, e)
	}
}

// shortRights are all right sides of at most two symbols.
func shortRights(terms, nons int) [][]api.Sym {
	var all []api.Sym
	for n := range terms {
		all = append(all, term(n))
	}
	for n := range nons {
		all = append(all, non(n))
	}
	rights := [][]api.Sym{nil}
	for _, a := range all {
		rights = append(rights, syms(a))
		for _, b := range all {
			rights = append(rights, syms(a, b))
		}
	}
	return rights
}

// P6.1: every grammar of one terminal, two nonterminals and at most three short productions.
func TestSmallGrammars(t *testing.T) {
	var all []api.Prod
	for _, right := range shortRights(1, 2) {
		all = append(all, prod(0, right...), prod(1, right...))
	}
	for start := range 2 {
		for i := range all {
			heldAgainstModel(t, grammarOf(1, 2, start, all[i]))
			for j := range i {
				heldAgainstModel(t, grammarOf(1, 2, start, all[i], all[j]))
				for k := range j {
					heldAgainstModel(t, grammarOf(1, 2, start, all[i], all[j], all[k]))
				}
			}
		}
	}
}

// P6.1: many grammars with more of everything.
func TestGreaterGrammars(t *testing.T) {
	r := rand.New(rand.NewSource(61))
	for range 4000 {
		heldAgainstModel(t, anyGrammar(r, 2, 3, 7, 3))
	}
	for range 100 {
		heldAgainstModel(t, anyGrammar(r, 2, 4, 12, 4))
	}
}

func FuzzGrammars(f *testing.F) {
	f.Add([]byte{0, 5, 4, 255, 1, 0, 255, 2, 1, 255, 1, 255})
	f.Add([]byte{1, 3, 0, 255, 0, 3, 4, 255, 2, 5, 5, 1})
	f.Fuzz(func(t *testing.T, b []byte) {
		g := grammarOf(2, 3, 0)
		for i := 0; i < len(b) && i < 60; i++ {
			p := prod(int(b[i] % 3))
			for i++; i < len(b) && b[i] < 200 && len(p.Right) < 5; i++ {
				if n := int(b[i] % 5); n < 2 {
					p.Right = append(p.Right, term(n))
				} else {
					p.Right = append(p.Right, non(n-2))
				}
			}
			g.Prods = append(g.Prods, p)
		}
		if e, _ := grammar.Check(g); e == api.OK {
			heldAgainstModel(t, g)
		}
	})
}

// P6.1: chains through as many nonterminals as there may be, with as many terminals: claims go all the way, and the end marker is number 64.
func TestGreatestGrammars(t *testing.T) {
	const n = 64
	up, down := grammarOf(n, n, 0), grammarOf(n, n, n-1)
	for i := range n - 1 {
		up.Prods = append(up.Prods, prod(i, non(i+1), term(i)), prod(i, non(i+1)))
		down.Prods = append(down.Prods, prod(i+1, non(i)))
	}
	up.Prods = append(up.Prods, prod(n-1), prod(n-1, term(n-1)))
	down.Prods = append(down.Prods, prod(0))
	nullable, e1 := first.Nullable(up)
	firsts, e2 := first.First(up)
	follow, e3 := first.Follow(up)
	heights, e4 := first.Heights(up)
	if e1 != api.OK || e2 != api.OK || e3 != api.OK || e4 != api.OK {
		t.Fatal(e1, e2, e3, e4)
	}
	for i := range n {
		var from, below []int
		for x := range n {
			if x >= i {
				from = append(from, x)
			} else {
				below = append(below, x)
			}
		}
		if !nullable[i] || heights[i] != n-i {
			t.Errorf("nullable and height of %d: %v, %d", i, nullable[i], heights[i])
		}
		if !slices.Equal(firsts[i], from) {
			t.Errorf("first of %d: %v", i, firsts[i])
		}
		if !slices.Equal(follow[i], append(below, n)) {
			t.Errorf("follow of %d: %v", i, follow[i])
		}
	}
	for i, height := range must(first.Heights(down)) {
		if height != i+1 {
			t.Errorf("height of %d: %d", i, height)
		}
	}
}

func must[T any](x T, e api.Errno) T {
	if e != api.OK {
		panic(e)
	}
	return x
}

// P6.1 and P6.2: the chapter's examples; a set that has nothing.
func TestExamples(t *testing.T) {
	g := optional()
	nullable, firsts := must(first.Nullable(g)), must(first.First(g))
	if !slices.Equal(nullable, []bool{true, true, true}) || !sameLists(firsts, [][]int{{0, 1}, {0}, {1}}) {
		t.Error(nullable, firsts)
	}
	if follow := must(first.Follow(g)); !sameLists(follow, [][]int{{2}, {1, 2}, {2}}) {
		t.Error(follow)
	}
	if heights := must(first.Heights(g)); !slices.Equal(heights, []int{2, 1, 1}) {
		t.Error(heights)
	}
	both := syms(non(1), non(2))
	if of := must(first.Of(g, nullable, firsts, both, nil)); !slices.Equal(of, []int{0, 1}) {
		t.Error(of)
	}
	if of := must(first.Of(g, nullable, firsts, both, []int{2})); !slices.Equal(of, []int{0, 1, 2}) {
		t.Error(of)
	}
	if of := must(first.Of(g, nullable, firsts, nil, []int{2})); !slices.Equal(of, []int{2}) {
		t.Error(of)
	}
	if of := must(first.Of(g, nullable, firsts, nil, nil)); len(of) != 0 {
		t.Error(of)
	}
	barren := grammarOf(1, 2, 0, prod(0, non(0)))
	if n, f, w := must(first.Nullable(barren)), must(first.First(barren)), must(first.Follow(barren)); n[0] || n[1] || len(f[0])+len(f[1])+len(w[1]) != 0 || !slices.Equal(w[0], []int{1}) {
		t.Error(n, f, w)
	}
}

// P6.2: of claims of any kind, closed or not, whose numbers need not rise.
func TestOfAndIsNullable(t *testing.T) {
	r := rand.New(rand.NewSource(62))
	for range 20000 {
		g := anyGrammar(r, 4, 3, 2, 2)
		nullable, firsts := anyBools(r, len(g.Nons)), anyLists(r, len(g.Nons), len(g.Terms), false)
		l, look := anySyms(r, g, 5), anyList(r, len(g.Terms)+1)
		want := modelFirst(nullable, firsts, l)
		if modelNullable(nullable, l) {
			want = once(append(want, look...))
		}
		if got, e := first.Of(g, nullable, firsts, l, look); e != api.OK || !slices.Equal(got, want) {
			t.Fatalf("Of(%v, %v, %v, %v): %v, %v", nullable, firsts, l, look, got, e)
		}
		if got, e := first.IsNullable(g, nullable, l); e != api.OK || got != modelNullable(nullable, l) {
			t.Fatalf("IsNullable(%v, %v): %v, %v", nullable, l, got, e)
		}
	}
	long := slices.Repeat(syms(non(1)), 1<<16)
	g := grammarOf(64, 2, 0, prod(0))
	if got, e := first.Of(g, []bool{false, true}, [][]int{{62, 0}, {63, 1, 63}}, append(long, non(0)), []int{64}); e != api.OK || !slices.Equal(got, []int{0, 1, 62, 63}) {
		t.Error("Of many symbols:", got, e)
	}
	if got, e := first.Of(g, []bool{false, true}, [][]int{{62, 0}, {63, 1, 63}}, long, []int{64, 64, 0}); e != api.OK || !slices.Equal(got, []int{0, 1, 63, 64}) {
		t.Error("Of many symbols, with an end:", got, e)
	}
	if got, e := first.IsNullable(g, []bool{false, true}, long); e != api.OK || !got {
		t.Error("IsNullable of many symbols:", got, e)
	}
}

// wrongSyms are symbols that no grammar of two terminals and three nonterminals has.
func wrongSyms() []api.Sym {
	return syms(term(2), term(-1), non(3), non(-1), api.Sym{}, api.Sym{Kind: 3}, api.Sym{Kind: -1},
		term(math.MinInt), term(math.MaxInt), non(math.MinInt), non(math.MaxInt), api.Sym{Kind: math.MaxInt})
}

// P6.2: errors in the chapter's order; each one with all later ones beside it.
func TestOfErrors(t *testing.T) {
	g := optional()
	three, lists := []bool{true, false, true}, [][]int{{0}, {1}, nil}
	wrong := syms(api.Sym{})
	refused := func(nullable []bool, firsts [][]int, l []api.Sym, look []int, want api.Errno) {
		t.Helper()
		if got, e := first.Of(g, nullable, firsts, l, look); e != want || len(got) != 0 {
			t.Errorf("Of(%v, %v, %v, %v): %v, %v", nullable, firsts, l, look, got, e)
		}
	}
	for _, short := range [][]bool{nil, {}, {true, true}, {true, true, true, true}} {
		refused(short, [][]int{{-1}, {2}, {2}}, wrong, []int{3}, api.ErrCount)
		refused(short, lists, nil, nil, api.ErrCount)
	}
	for _, short := range [][][]int{nil, {}, {{-1}, {0}}, {{0}, {0}, {0}, {0}}} {
		refused(three, short, wrong, []int{3}, api.ErrCount)
		refused(three, short, nil, nil, api.ErrCount)
	}
	for _, n := range []int{-1, 2, 3, 64, 65, 127, 128, math.MinInt, math.MaxInt} {
		for at := range 3 {
			out := cloned(lists)
			out[at] = append(out[at], n)
			refused(three, out, nil, nil, api.ErrRange)
			refused(three, out, wrong, []int{3}, api.ErrRange)
		}
		if n != 2 {
			refused(three, lists, nil, []int{n}, api.ErrRange)
			refused(three, lists, wrong, []int{0, 2, n}, api.ErrRange)
			refused(three, lists, syms(term(0)), []int{n}, api.ErrRange)
		}
	}
	for _, s := range wrongSyms() {
		for _, l := range [][]api.Sym{syms(s), syms(s, term(0)), syms(term(0), s), syms(non(0), non(1), s)} {
			refused(three, lists, l, []int{2}, api.ErrSymbol)
		}
	}
}

// P6.2: likewise.
func TestIsNullableErrors(t *testing.T) {
	g := optional()
	for _, short := range [][]bool{nil, {}, {true, true}, {true, true, true, true}} {
		for _, l := range [][]api.Sym{nil, syms(non(0)), syms(api.Sym{})} {
			if got, e := first.IsNullable(g, short, l); e != api.ErrCount || got {
				t.Errorf("IsNullable(%v, %v): %v, %v", short, l, got, e)
			}
		}
	}
	for _, s := range wrongSyms() {
		for _, l := range [][]api.Sym{syms(s), syms(s, non(0)), syms(non(0), s), syms(term(0), s), syms(non(1), s)} {
			if got, e := first.IsNullable(g, []bool{true, false, true}, l); e != api.ErrSymbol || got {
				t.Errorf("IsNullable(%v): %v, %v", l, got, e)
			}
		}
	}
}

// P6.3: of every claim of nullable of many grammars.
func TestCheckNullable(t *testing.T) {
	r := rand.New(rand.NewSource(63))
	for range 1500 {
		g := anyGrammar(r, 2, 4, 8, 3)
		eachClaim(len(g.Nons), 1, func(lists [][]int) {
			nullable := bools(lists)
			want, place := api.OK, 0
			if at := nullableOpen(g, nullable); at >= 0 {
				want, place = api.ErrNullable, at
			}
			if e, at := first.CheckNullable(g, nullable); e != want || at != place {
				t.Fatalf("CheckNullable(%v, %v): %v, %d", g.Prods, nullable, e, at)
			}
		})
	}
	g := optional()
	for _, short := range [][]bool{nil, {}, {false, false}, {false, false, false, false}} {
		if e, at := first.CheckNullable(g, short); e != api.ErrCount || at != 0 {
			t.Errorf("CheckNullable(%v): %v, %d", short, e, at)
		}
	}
	if e, at := first.CheckNullable(g, []bool{false, true, true}); e != api.ErrNullable || at != 0 {
		t.Error("example 3:", e, at)
	}
	if e, at := first.CheckNullable(g, []bool{true, true, false}); e != api.ErrNullable || at != 4 {
		t.Error("the last production:", e, at)
	}
}

// P6.3: of every claim of first beside any claim of nullable, be it closed or not.
func TestCheckFirst(t *testing.T) {
	r := rand.New(rand.NewSource(64))
	for range 600 {
		g := anyGrammar(r, 2, 3, 6, 3)
		nullable := anyBools(r, len(g.Nons))
		eachClaim(len(g.Nons), len(g.Terms), func(lists [][]int) {
			want, place := api.OK, 0
			if at := firstOpen(g, nullable, lists); at >= 0 {
				want, place = api.ErrFirst, at
			}
			if e, at := first.CheckFirst(g, nullable, lists); e != want || at != place {
				t.Fatalf("CheckFirst(%v, %v, %v): %v, %d", g.Prods, nullable, lists, e, at)
			}
		})
	}
	if e, at := first.CheckFirst(optional(), []bool{true, true, true}, [][]int{{0, 1}, {0}, {}}); e != api.ErrFirst || at != 3 {
		t.Error("example 3:", e, at)
	}
}

// P6.3: wrong lists, in the order of the nonterminals; of one list a number out of range goes ahead of numbers that do not rise, wherever they stand.
func TestCheckFirstErrors(t *testing.T) {
	g := optional() // lists that may be, but are not closed, so that ErrFirst must come last
	refused := func(nullable []bool, firsts [][]int, want api.Errno, place int) {
		t.Helper()
		if e, at := first.CheckFirst(g, nullable, firsts); e != want || at != place {
			t.Errorf("CheckFirst(%v, %v): %v, %d", nullable, firsts, e, at)
		}
	}
	three := []bool{true, true, true}
	for _, short := range [][]bool{nil, {}, {true, true}, {true, true, true, true}} {
		refused(short, [][]int{{0, 1}, {-1}, {1}}, api.ErrCount, 0)
		refused(short, nil, api.ErrCount, 0)
	}
	for _, short := range [][][]int{nil, {}, {{0}, {-1}}, {{0}, {-1}, {0}, {0}}} {
		refused(three, short, api.ErrCount, 0)
	}
	for _, n := range []int{-1, 2, 64, 65, 127, 128, math.MinInt, math.MaxInt} {
		refused(three, [][]int{{n}, {1, 0}, {9}}, api.ErrRange, 0)
		refused(three, [][]int{{0, 1}, {0, n}, {9}}, api.ErrRange, 1)
		refused(three, [][]int{nil, {}, {1, 0, n}}, api.ErrRange, 2)
		refused(three, [][]int{nil, {}, {n, 1, 0}}, api.ErrRange, 2)
		refused(three, [][]int{nil, {1, 1}, {n}}, api.ErrOrder, 1)
	}
	refused(three, [][]int{{1, 0}, {9}, nil}, api.ErrOrder, 0)
	refused(three, [][]int{{0, 1}, {0, 0}, {9}}, api.ErrOrder, 1)
	refused(three, [][]int{{0, 1}, {0}, {0, 1, 0}}, api.ErrOrder, 2)
	refused(three, [][]int{nil, nil, nil}, api.ErrFirst, 1)
}

// P6.1 to P6.3: Check's error of the grammar goes ahead of all others, with the place 0 wherever Check finds it.
func TestWrongGrammars(t *testing.T) {
	twice, prec, level := optional(), optional(), optional()
	twice.Prods = append(twice.Prods, twice.Prods[3])
	prec.Prods[2].Prec = 7
	level.Levels = []api.Level{{Assoc: api.AssocLeft, Terms: []int{0}}, {Assoc: 9, Terms: []int{1}}}
	start, name, none := optional(), optional(), optional()
	start.Start = -1
	name.Nons[2] = name.Terms[1]
	none.Prods = nil
	symbol := grammarOf(1, 1, 0, prod(0), prod(0, non(math.MaxInt)))
	left := grammarOf(1, 1, 0, prod(0), prod(math.MinInt))
	for i, g := range []api.Grammar{{}, twice, prec, level, start, name, none, symbol, left, grammarOf(65, 1, 0, prod(0)), grammarOf(1, 65, 0, prod(64))} {
		want, _ := grammar.Check(g)
		if want == api.OK {
			t.Fatal("a grammar that may be:", i)
		}
		nullable, e1 := first.Nullable(g)
		firsts, e2 := first.First(g)
		follow, e3 := first.Follow(g)
		heights, e4 := first.Heights(g)
		if len(nullable)+len(firsts)+len(follow)+len(heights) != 0 {
			t.Error("beside an error:", nullable, firsts, follow, heights)
		}
		errors := []api.Errno{e1, e2, e3, e4}
		for _, n := range []int{0, 1, len(g.Nons)} {
			of, e5 := first.Of(g, make([]bool, n), make([][]int, n), syms(api.Sym{}), []int{-1})
			is, e6 := first.IsNullable(g, make([]bool, n), syms(api.Sym{}))
			e7, at7 := first.CheckNullable(g, make([]bool, n))
			e8, at8 := first.CheckFirst(g, make([]bool, n), make([][]int, n))
			errors = append(errors, e5, e6, e7, e8)
			if len(of) != 0 || is || at7 != 0 || at8 != 0 {
				t.Error("beside an error:", of, is, at7, at8)
			}
		}
		for call, e := range errors {
			if e != want {
				t.Errorf("grammar %d, call %d: %v, not %v", i, call, e, want)
			}
		}
	}
}

func cloned(lists [][]int) [][]int {
	all := make([][]int, len(lists))
	for i, l := range lists {
		all[i] = slices.Clone(l)
	}
	return all
}
