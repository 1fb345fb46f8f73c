package items_test

import (
	"math"
	"math/rand"
	"slices"
	"strings"
	"testing"

	"gantry/api"
	"gantry/grammar"
	"gantry/items"
)

// sum is E → E + n, E → n.
func sum() api.Grammar {
	return api.Grammar{Terms: []string{"'+'", "n"}, Nons: []string{"E"}, Prods: []api.Prod{prod(0, non(0), term(0), term(1)), prod(0, term(1))}}
}

// P10.1 to P10.4: the chapter's examples, and what stands beside them.
func TestExamples(t *testing.T) {
	g := sum()
	start := must(items.Start(g))
	if !same(start, list(item(-1, 0, 2))) {
		t.Error("Start:", start)
	}
	c := must(items.Closure(g, start))
	if !same(c, list(item(-1, 0, 2), item(0, 0, 0, 2), item(1, 0, 0, 2))) {
		t.Error("Closure:", c)
	}
	behind := must(items.Goto(g, c, non(0)))
	if !same(behind, list(item(-1, 1, 2), item(0, 1, 0, 2))) {
		t.Error("Goto:", behind)
	}
	if l := must(items.Symbols(g, c)); !slices.Equal(l, syms(term(1), non(0))) {
		t.Error("Symbols:", l)
	}
	if e, at := items.Check(g, list(item(1, 2))); e != api.ErrItem || at != 0 {
		t.Error("Check of a dot behind the end:", e, at)
	}
	if e, at := items.Check(g, list(item(1, 0, 2, 0))); e != api.ErrOrder || at != 0 {
		t.Error("Check of lookaheads that fall:", e, at)
	}
	if e, at := items.Check(g, c); e != api.OK || at != 3 {
		t.Error("Check of a closure:", e, at)
	}
	if e, at := items.Check(g, nil); e != api.OK || at != 0 {
		t.Error("Check of none:", e, at)
	}
	if l := items.Kernel(c); !same(l, start) {
		t.Error("Kernel:", l)
	}
	if l := items.Cores(behind); !slices.Equal(l, []api.Core{{Prod: -1, Dot: 1}, {Prod: 0, Dot: 1}}) {
		t.Error("Cores:", l)
	}
}

// P10.4: the parts of a text that may be missing, and names that are quoted.
func TestPrintTexts(t *testing.T) {
	g := sum()
	g.Nons = append(g.Nons, "Tail")
	g.Prods = append(g.Prods, prod(1), prod(1, non(1), non(0)))
	for _, c := range []struct {
		i    api.Item
		want string
	}{
		{item(0, 1, 0, 2), "E -> E . '+' n , '+' $"},
		{item(0, 0), "E -> . E '+' n ,"},
		{item(0, 3, 1), "E -> E '+' n . , n"},
		{item(-1, 0, 2), "$start -> . E , $"},
		{item(-1, 1, 0, 1, 2), "$start -> E . , '+' n $"},
		{item(2, 0), "Tail -> . ,"},
		{item(2, 0, 2), "Tail -> . , $"},
		{item(3, 1), "Tail -> Tail . E ,"},
	} {
		if text, e := items.Print(g, c.i); e != api.OK || text != c.want {
			t.Errorf("Print of %v: %q, %v, want %q", c.i, text, e, c.want)
		}
	}
}

// heldAgainstModel asks all calls that have a grammar of one list that may be.
func heldAgainstModel(t *testing.T, g api.Grammar, c claims, l []api.Item) {
	t.Helper()
	if e, at := items.Check(g, l); e != api.OK || at != len(l) {
		t.Fatalf("Check(%v, %v): %v, %d", g, l, e, at)
	}
	if got, e := items.Closure(g, l); e != api.OK || !same(got, modelClosure(g, c, l)) {
		t.Fatalf("Closure(%v, %v): %v, %v, want %v", g, l, got, e, modelClosure(g, c, l))
	}
	if got, e := items.Symbols(g, l); e != api.OK || !slices.Equal(got, modelSymbols(g, l)) {
		t.Fatalf("Symbols(%v, %v): %v, %v", g, l, got, e)
	}
	for _, s := range symbolsOf(g) {
		if got, e := items.Goto(g, l, s); e != api.OK || !same(got, modelGoto(g, l, s)) {
			t.Fatalf("Goto(%v, %v, %v): %v, %v", g, l, s, got, e)
		}
	}
	for _, i := range l {
		if got, e := items.Print(g, i); e != api.OK || got != modelPrint(g, i) {
			t.Fatalf("Print(%v, %v): %q, %v", g, i, got, e)
		}
	}
	if got, e := items.Start(g); e != api.OK || !same(got, list(item(-1, 0, len(g.Terms)))) {
		t.Fatalf("Start(%v): %v, %v", g, got, e)
	}
}

// P10.2 and P10.4: every list of one item of every small grammar.
func TestSmallGrammars(t *testing.T) {
	looks := [][]int{nil, {0}, {1}, {0, 1}}
	at := 0
	eachSmall(func(g api.Grammar) {
		c := claimsOf(g)
		for _, core := range coresOf(g) {
			at++
			heldAgainstModel(t, g, c, list(item(core.Prod, core.Dot, looks[at%4]...)))
		}
	})
}

// P10.2 and P10.4: many greater grammars, and lists with many items.
func TestGreaterGrammars(t *testing.T) {
	r := rand.New(rand.NewSource(102))
	for range 3000 {
		g := anyGrammar(r, 4, 5, 12, 5)
		c := claimsOf(g)
		heldAgainstModel(t, g, c, must(items.Start(g)))
		heldAgainstModel(t, g, c, anyItems(r, g, 3))
		heldAgainstModel(t, g, c, anyItems(r, g, 12))
	}
}

func FuzzGrammars(f *testing.F) {
	f.Add([]byte{0, 5, 4, 255, 1, 0, 255, 2, 1, 255, 1, 255}, int64(1))
	f.Add([]byte{1, 3, 0, 255, 0, 3, 4, 255, 2, 5, 5, 1}, int64(2))
	f.Fuzz(func(t *testing.T, b []byte, seed int64) {
		g := grammarOf(2, 3, 0)
		for i := 0; i < len(b) && i < 60; i++ {
			p := prod(int(b[i] % 3))
			for i++; i < len(b) && b[i] < 200 && len(p.Right) < 5; i++ {
				if n := int(b[i] % 5); n < 2 {
					p.Right = append(p.Right, term(n))
				} else {
					p.Right = append(p.Right, non(n-2))
				}
			}
			g.Prods = append(g.Prods, p)
		}
		if e, _ := grammar.Check(g); e == api.OK {
			heldAgainstModel(t, g, claimsOf(g), anyItems(rand.New(rand.NewSource(seed)), g, 4))
		}
	})
}

// greatest has as many terminals, nonterminals and productions as there may be, and right sides as long as they may be: each nonterminal gives the next ones, or its own terminal, or a long row.
func greatest() api.Grammar {
	const n = 64
	g := grammarOf(n, n, 0)
	for i := range n {
		next := non((i + 1) % n)
		long := append(slices.Repeat(syms(next), 15), term(i))
		g.Prods = append(g.Prods, prod(i, next), prod(i, term(i)), prod(i, long...), prod(i, next, non((i+2)%n)))
	}
	return g
}

// P10.2: all cores of a grammar at every limit; the end marker, which is number 64, comes all the way.
func TestGreatestGrammar(t *testing.T) {
	g := greatest()
	if e, at := grammar.Check(g); e != api.OK {
		t.Fatal(e, at)
	}
	c := must(items.Closure(g, must(items.Start(g))))
	if len(c) != 257 {
		t.Fatal("as many as there are productions, and one:", len(c))
	}
	for _, i := range c[1:] {
		if len(i.Look) != 65 || i.Look[64] != 64 {
			t.Fatal("lookaheads:", i)
		}
	}
	var all []api.Item
	for _, core := range coresOf(g) {
		all = append(all, item(core.Prod, core.Dot))
	}
	if e, at := items.Check(g, all); e != api.OK || at != len(all) {
		t.Fatal(e, at)
	}
	if closed := must(items.Closure(g, all)); !slices.Equal(items.Cores(closed), coresOf(g)) {
		t.Fatal("cores of the closure of all:", len(closed))
	}
	if l := must(items.Symbols(g, all)); !slices.Equal(l, symbolsOf(g)) {
		t.Fatal("Symbols:", l)
	}
	if text := must(items.Print(g, item(2, 16, 0, 63, 64))); text != "n0 ->"+strings.Repeat(" n1", 15)+" t0 . , t0 t63 $" {
		t.Fatal(text)
	}
}

// P10.2: one nonterminal with as many productions as there may be, each of which brings all of them, under a lookahead of its own.
func TestManyRecursiveProductions(t *testing.T) {
	g := grammarOf(64, 1, 0)
	for i := range 256 {
		g.Prods = append(g.Prods, prod(0, non(0), term(i%64), term(i/64)))
	}
	var look []int
	for n := range 65 {
		look = append(look, n)
	}
	want := list(item(-1, 0, 64))
	for p := range g.Prods {
		want = append(want, item(p, 0, look...))
	}
	if got, e := items.Closure(g, list(item(-1, 0, 64))); e != api.OK || !same(got, want) {
		t.Error(len(got), e)
	}
}

// P10.2: a core may stand without lookaheads, and brings its productions all the same; a production behind a symbol that is not nullable does not have the lookaheads of the item.
func TestClosureEdges(t *testing.T) {
	g := grammarOf(2, 4, 0, prod(0, non(1), non(2)), prod(1, non(3)), prod(2), prod(2, term(0)), prod(3), prod(3, non(3), term(1)))
	for _, c := range []struct{ l, want []api.Item }{
		{nil, nil},
		{list(item(-1, 1, 2)), list(item(-1, 1, 2))},
		{list(item(0, 1)), list(item(0, 1), item(2, 0), item(3, 0))},
		{list(item(0, 1, 1, 2)), list(item(0, 1, 1, 2), item(2, 0, 1, 2), item(3, 0, 1, 2))},
		{list(item(0, 0)), list(item(0, 0), item(1, 0, 0), item(4, 0, 0, 1), item(5, 0, 0, 1))},
		{list(item(0, 0, 2)), list(item(0, 0, 2), item(1, 0, 0, 2), item(4, 0, 0, 1, 2), item(5, 0, 0, 1, 2))},
		{list(item(5, 0)), list(item(4, 0, 1), item(5, 0, 1))},
		{list(item(1, 0), item(5, 1, 2)), list(item(1, 0), item(4, 0, 1), item(5, 0, 1), item(5, 1, 2))},
		{list(item(0, 1), item(3, 0, 0), item(3, 1)), list(item(0, 1), item(2, 0), item(3, 0, 0), item(3, 1))},
	} {
		if got, e := items.Closure(g, c.l); e != api.OK || !same(got, c.want) {
			t.Errorf("Closure of %v: %v, %v, want %v", c.l, got, e, c.want)
		}
	}
	barren := grammarOf(1, 2, 0, prod(0, non(1), term(0)), prod(1, non(1)))
	if got := must(items.Closure(barren, list(item(-1, 0, 1)))); !same(got, list(item(-1, 0, 1), item(0, 0, 1), item(1, 0, 0))) {
		t.Error("Closure with a barren symbol:", got)
	}
	noRules := grammarOf(1, 2, 0, prod(0, non(1), term(0)))
	if got := must(items.Closure(noRules, list(item(0, 0)))); !same(got, list(item(0, 0))) {
		t.Error("Closure over a nonterminal without productions:", got)
	}
}

// pool are items of sum that may be and that may not, at all edges.
func pool() []api.Item {
	var l []api.Item
	for _, p := range []int{math.MinInt, -2, -1, 0, 1, 2, math.MaxInt} {
		for _, dot := range []int{math.MinInt, -1, 0, 1, 2, 3, 4, math.MaxInt} {
			for _, look := range [][]int{nil, {}, {0}, {2}, {0, 1, 2}, {3}, {-1}, {0, 0}, {2, 0, 3}, {1, 0, 2}, {math.MinInt, math.MaxInt}} {
				l = append(l, item(p, dot, look...))
			}
		}
	}
	return l
}

// heldFaults asks all calls that look for faults of a list.
func heldFaults(t *testing.T, g api.Grammar, l []api.Item, seen map[api.Errno]int) {
	t.Helper()
	want, place := modelCheck(g, l)
	seen[want]++
	if e, at := items.Check(g, l); e != want || at != place {
		t.Fatalf("Check of %v: %v %d, want %v %d", l, e, at, want, place)
	}
	if want != api.OK {
		if got, e := items.Closure(g, l); e != want || len(got) != 0 {
			t.Fatalf("Closure of %v: %v, %v", l, got, e)
		}
		if got, e := items.Goto(g, l, term(2)); e != want || len(got) != 0 {
			t.Fatalf("Goto of %v: %v, %v", l, got, e)
		}
		if got, e := items.Symbols(g, l); e != want || len(got) != 0 {
			t.Fatalf("Symbols of %v: %v, %v", l, got, e)
		}
	}
	got, e := items.Normal(g, l)
	if want := modelNormalFault(g, l); e != want || e != api.OK && len(got) != 0 || e == api.OK && !same(got, modelNormal(l)) {
		t.Fatalf("Normal of %v: %v, %v", l, got, e)
	}
}

// P10.1: every list of one and of two items, right or wrong, tells the first fault and its place; the other calls tell the same fault.
func TestFaults(t *testing.T) {
	g, all := sum(), pool()
	seen := map[api.Errno]int{}
	for at, a := range all {
		heldFaults(t, g, list(a), seen)
		want, _ := modelCheck(g, list(a))
		if text, e := items.Print(g, a); e != want || (e != api.OK) != (text == "") {
			t.Fatalf("Print of %v: %q, %v, want %v", a, text, e, want)
		}
		for k := at % 3; k < len(all); k += 3 {
			heldFaults(t, g, list(a, all[k]), seen)
		}
	}
	r := rand.New(rand.NewSource(101))
	right := slices.DeleteFunc(pool(), func(i api.Item) bool { return modelNormalFault(g, list(i)) != api.OK })
	for range 40000 {
		var l []api.Item
		for range 2 + r.Intn(6) {
			l = append(l, right[r.Intn(len(right))])
		}
		if r.Intn(2) == 0 {
			l = modelNormal(l)
		}
		if r.Intn(3) == 0 {
			l = slices.Insert(l, r.Intn(len(l)+1), all[r.Intn(len(all))])
		}
		heldFaults(t, g, l, seen)
	}
	for _, e := range []api.Errno{api.OK, api.ErrItem, api.ErrRange, api.ErrOrder} {
		if seen[e] < 1000 {
			t.Error("too seldom:", e, seen)
		}
	}
}

// P10.1: of a long list with a fault at its end, or of very many items of one core.
func TestLongLists(t *testing.T) {
	g := sum()
	long := make([]int, 1<<20)
	for i := range long {
		long[i] = i % 3
	}
	if e, at := items.Check(g, list(item(0, 0), item(1, 0, append(slices.Clone(long), 3)...))); e != api.ErrRange || at != 1 {
		t.Error(e, at)
	}
	if e, at := items.Check(g, list(item(0, 0), item(1, 0, long...))); e != api.ErrOrder || at != 1 {
		t.Error(e, at)
	}
	if got, e := items.Normal(g, list(item(1, 0, long...), item(0, 1, 1))); e != api.OK || !same(got, list(item(0, 1, 1), item(1, 0, 0, 1, 2))) {
		t.Error(got, e)
	}
	many := slices.Repeat(list(item(1, 1, 2, 0), item(-1, 0), item(1, 0, 1)), 1<<17)
	if got, e := items.Normal(g, many); e != api.OK || !same(got, list(item(-1, 0), item(1, 0, 1), item(1, 1, 0, 2))) {
		t.Error(got, e)
	}
	if _, e := items.Normal(g, append(many, item(1, 2))); e != api.ErrItem {
		t.Error(e)
	}
	if _, e := items.Normal(g, append(list(item(0, 0, 3)), append(many, item(1, 2))...)); e != api.ErrItem {
		t.Error("an item that there is not goes ahead, wherever it stands:", e)
	}
}

// P10.1 to P10.4: a grammar that may not be is told ahead of all else.
func TestWrongGrammars(t *testing.T) {
	for _, do := range []func(g *api.Grammar){
		func(g *api.Grammar) { *g = api.Grammar{} },
		func(g *api.Grammar) { g.Nons = nil },
		func(g *api.Grammar) { g.Terms[1] = "E" },
		func(g *api.Grammar) { g.Start = 7 },
		func(g *api.Grammar) { g.Start = math.MinInt },
		func(g *api.Grammar) { g.Prods = nil },
		func(g *api.Grammar) { g.Prods[1].Left = -1 },
		func(g *api.Grammar) { g.Prods[1].Right = syms(term(2)) },
		func(g *api.Grammar) { g.Prods[1].Right = slices.Repeat(syms(term(0)), 17) },
		func(g *api.Grammar) { g.Prods[1] = g.Prods[0] },
		func(g *api.Grammar) { g.Prods[1].Prec = 9 },
		func(g *api.Grammar) { g.Levels = []api.Level{{}} },
	} {
		g := sum()
		do(&g)
		want, _ := grammar.Check(g)
		if want == api.OK {
			t.Fatal("a grammar that may be:", g)
		}
		if l, e := items.Start(g); e != want || len(l) != 0 {
			t.Errorf("Start of %v: %v, %v", g, l, e)
		}
		for _, l := range [][]api.Item{nil, list(item(-1, 0, 2)), list(item(9, 0)), list(item(0, 9, -1), item(0, 0, 2, 0)), list(item(math.MinInt, math.MaxInt, math.MinInt))} {
			refusedByAll(t, g, l, want)
		}
	}
}

func refusedByAll(t *testing.T, g api.Grammar, l []api.Item, want api.Errno) {
	t.Helper()
	if e, at := items.Check(g, l); e != want || at != 0 {
		t.Errorf("Check(%v, %v): %v, %d", g, l, e, at)
	}
	normal, e1 := items.Normal(g, l)
	closure, e2 := items.Closure(g, l)
	behind, e3 := items.Goto(g, l, api.Sym{})
	if e1 != want || e2 != want || e3 != want || len(normal)+len(closure)+len(behind) != 0 {
		t.Errorf("%v, %v: %v %v, %v %v, %v %v", g, l, normal, e1, closure, e2, behind, e3)
	}
	if got, e := items.Symbols(g, l); e != want || len(got) != 0 {
		t.Errorf("Symbols(%v, %v): %v, %v", g, l, got, e)
	}
	for _, i := range l {
		if got, e := items.Print(g, i); e != want || got != "" {
			t.Errorf("Print(%v, %v): %v, %v", g, i, got, e)
		}
	}
}

// P10.2: what is no symbol, the end marker too, is refused; of a symbol that stands behind no dot there is nothing.
func TestGotoSymbols(t *testing.T) {
	g := sum()
	for _, l := range [][]api.Item{nil, must(items.Closure(g, must(items.Start(g)))), list(item(-1, 1, 2))} {
		for _, s := range syms(term(2), term(-1), non(1), non(-1), api.Sym{}, api.Sym{Kind: 3}, api.Sym{Kind: -1}, term(math.MinInt), term(math.MaxInt), non(math.MinInt), non(math.MaxInt), api.Sym{Kind: math.MaxInt}) {
			if got, e := items.Goto(g, l, s); e != api.ErrSymbol || len(got) != 0 {
				t.Errorf("Goto of %v by %v: %v, %v", l, s, got, e)
			}
		}
		if got, e := items.Goto(g, l, term(0)); e != api.OK || len(got) != 0 {
			t.Errorf("Goto of %v by +: %v, %v", l, got, e)
		}
	}
	twice := grammarOf(1, 1, 0, prod(0, term(0), term(0), term(0)))
	got, e := items.Goto(twice, list(item(0, 0), item(0, 1, 0), item(0, 2, 1), item(0, 3, 0, 1)), term(0))
	if e != api.OK || !same(got, list(item(0, 1), item(0, 2, 0), item(0, 3, 1))) {
		t.Error("Goto of items of one production:", got, e)
	}
	if got := must(items.Goto(g, list(item(0, 0, 1)), non(0))); !same(got, list(item(0, 1, 1))) {
		t.Error("Goto does not close ahead of it:", got)
	}
	if got := must(items.Goto(sum(), list(item(0, 0), item(0, 1, 2)), term(0))); !same(got, list(item(0, 2, 2))) {
		t.Error("Goto does not close behind it:", got)
	}
}

// P10.3: of any lists, those that no grammar has, too.
func TestKernelAndCores(t *testing.T) {
	r := rand.New(rand.NewSource(103))
	for range 20000 {
		l := strangeItems(r, 6)
		var kernels []api.Item
		var cores []api.Core
		for _, i := range l {
			cores = append(cores, coreOf(i))
			if i.Dot > 0 || coreOf(i) == (api.Core{Prod: -1}) {
				kernels = append(kernels, i)
			}
		}
		if got := items.Kernel(l); !same(got, kernels) {
			t.Fatalf("Kernel of %v: %v", l, got)
		}
		if got := items.Cores(l); !slices.Equal(got, cores) {
			t.Fatalf("Cores of %v: %v", l, got)
		}
	}
	if l := items.Kernel(list(item(0, 0, 1), item(-1, 1), item(7, math.MaxInt, 3), item(-2, 0), item(-1, -1), item(3, math.MinInt))); !same(l, list(item(-1, 1), item(7, math.MaxInt, 3))) {
		t.Error("Kernel:", l)
	}
	if len(items.Kernel(nil)) != 0 || len(items.Cores(nil)) != 0 {
		t.Error("of none")
	}
}

// P10.3: Union of all lists that rise, whatever their numbers are; of others it ends, and tells the same twice.
func TestUnion(t *testing.T) {
	r := rand.New(rand.NewSource(104))
	for range 40000 {
		a, b := strangeItems(r, 6), strangeItems(r, 6)
		if !same(items.Union(a, b), items.Union(a, b)) {
			t.Fatalf("Union of %v and %v is not one", a, b)
		}
		a, b = modelNormal(a), modelNormal(b)
		if got := items.Union(a, b); !same(got, modelNormal(slices.Concat(a, b))) {
			t.Fatalf("Union of %v and %v: %v", a, b, got)
		}
	}
	a := list(item(math.MinInt, math.MaxInt, math.MinInt, 0), item(math.MaxInt, math.MinInt, math.MaxInt))
	b := list(item(math.MinInt, math.MaxInt, 0, math.MaxInt), item(-1, 0), item(math.MaxInt, math.MinInt))
	want := list(item(math.MinInt, math.MaxInt, math.MinInt, 0, math.MaxInt), item(-1, 0), item(math.MaxInt, math.MinInt, math.MaxInt))
	if got := items.Union(a, b); !same(got, want) {
		t.Error(got)
	}
	if got := items.Union(nil, nil); len(got) != 0 {
		t.Error(got)
	}
	if got := items.Union([]api.Item{}, want); !same(got, want) {
		t.Error(got)
	}
}

// P10.3: of any lists; what two items of one core have together none of them has.
func TestWithin(t *testing.T) {
	r := rand.New(rand.NewSource(105))
	seen := map[bool]int{}
	for range 60000 {
		a, b := strangeItems(r, 3), strangeItems(r, 12)
		want := modelWithin(a, b)
		seen[want]++
		if got := items.Within(a, b); got != want {
			t.Fatalf("Within(%v, %v): %v", a, b, got)
		}
		if !items.Within(b, slices.Concat(a, b)) || len(a) > 0 && items.Within(a, nil) {
			t.Fatal("within itself and more, not within none:", a, b)
		}
	}
	if seen[true] < 5000 || seen[false] < 5000 {
		t.Error("too seldom:", seen)
	}
	for _, c := range []struct {
		a, b []api.Item
		want bool
	}{
		{nil, nil, true},
		{nil, list(item(0, 0)), true},
		{list(item(0, 0)), nil, false},
		{list(item(0, 0)), list(item(0, 1), item(1, 0), item(0, -1)), false},
		{list(item(0, 0)), list(item(0, 0, 5)), true},
		{list(item(0, 0, 1, 2)), list(item(0, 0, 1), item(0, 0, 2)), false},
		{list(item(0, 0, 2, 1, 2)), list(item(0, 0, 1), item(0, 0, 3, 2, 1)), true},
		{list(item(0, 0, 1), item(0, 0, 2)), list(item(0, 0, 1, 2)), true},
		{list(item(0, 0, math.MinInt, math.MaxInt)), list(item(0, 0, math.MaxInt, 0, math.MinInt)), true},
		{list(item(0, 0, 3)), list(item(0, 0, 1, 2, 4)), false},
		{list(item(0, 0, 4)), list(item(0, 0, 1, 2)), false},
	} {
		if got := items.Within(c.a, c.b); got != c.want {
			t.Errorf("Within(%v, %v): %v", c.a, c.b, got)
		}
	}
	var many []api.Item
	for i := range 1 << 18 {
		many = append(many, item(i%999, i, i, -i, 0))
	}
	if !items.Within(many, many) || items.Within(many, many[:len(many)-1]) {
		t.Error("Within of very many")
	}
}
