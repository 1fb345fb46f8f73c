package grammar_test

import (
	"cmp"
	"math"
	"math/rand"
	"reflect"
	"slices"
	"strconv"
	"testing"

	"gantry/api"
	"gantry/grammar"
)

func term(n int) api.Sym { return api.Sym{Kind: api.SymTerm, N: n} }
func non(n int) api.Sym  { return api.Sym{Kind: api.SymNon, N: n} }

func syms(l ...api.Sym) []api.Sym { return l }

// numbered are that many names: the letter, and the numbers from 0 on behind it.
func numbered(letter string, n int) []string {
	var l []string
	for i := range n {
		l = append(l, letter+strconv.Itoa(i))
	}
	return l
}

// sum is E -> E + E, E -> n.
func sum() api.Grammar {
	return api.Grammar{
		Terms: []string{"'+'", "n"},
		Nons:  []string{"E"},
		Prods: []api.Prod{
			{Right: syms(non(0), term(0), non(0)), Prec: -1},
			{Right: syms(term(1)), Prec: -1},
		},
	}
}

// calc has something of everything: a start that is not the first, an empty right side, levels, a Prec.
func calc() api.Grammar {
	return api.Grammar{
		Terms: []string{"n", "'+'", "'*'", "'-'", "'='"},
		Nons:  []string{"E", "S"},
		Start: 1,
		Prods: []api.Prod{
			{Left: 0, Right: syms(non(0), term(1), non(0)), Prec: -1},
			{Left: 0, Right: syms(non(0), term(2), non(0)), Prec: -1},
			{Left: 0, Right: syms(term(3), non(0)), Prec: 2},
			{Left: 0, Right: syms(term(0)), Prec: -1},
			{Left: 1, Right: syms(non(0)), Prec: -1},
			{Left: 1, Prec: -1},
		},
		Levels: []api.Level{
			{Assoc: api.AssocNone, Terms: []int{4}},
			{Assoc: api.AssocLeft, Terms: []int{1, 3}},
			{Assoc: api.AssocRight, Terms: []int{2}},
		},
	}
}

// greatest is at every limit.
func greatest() api.Grammar {
	g := api.Grammar{Terms: numbered("t", 64), Nons: numbered("n", 64), Start: 63}
	for i := range 256 {
		p := api.Prod{Left: i % 64, Prec: i%65 - 1}
		for at := range 16 {
			p.Right = append(p.Right, api.Sym{Kind: api.SymTerm + api.SymKind(at%2), N: (i + at) % 64})
		}
		p.Right[15] = term(i / 64)
		g.Prods = append(g.Prods, p)
	}
	for i := range 32 {
		g.Levels = append(g.Levels, api.Level{Assoc: api.Assoc(i%3 + 1), Terms: []int{i, 63 - i}})
	}
	return g
}

// randomGrammar is a small grammar that may be.
func randomGrammar(rnd *rand.Rand) api.Grammar {
	g := api.Grammar{Terms: numbered("t", 1+rnd.Intn(4)), Nons: numbered("N", 1+rnd.Intn(4))}
	g.Start = rnd.Intn(len(g.Nons))
	for range 1 + rnd.Intn(6) {
		p := api.Prod{Left: rnd.Intn(len(g.Nons)), Prec: rnd.Intn(len(g.Terms)+1) - 1}
		for range rnd.Intn(4) {
			p.Right = append(p.Right, randomSymbol(rnd, g))
		}
		if !slices.ContainsFunc(g.Prods, func(q api.Prod) bool { return q.Left == p.Left && slices.Equal(q.Right, p.Right) }) {
			g.Prods = append(g.Prods, p)
		}
	}
	for _, n := range rnd.Perm(len(g.Terms)) {
		switch rnd.Intn(3) {
		case 1:
			g.Levels = append(g.Levels, api.Level{Assoc: api.Assoc(1 + rnd.Intn(3)), Terms: []int{n}})
		case 2:
			if last := len(g.Levels) - 1; last >= 0 {
				g.Levels[last].Terms = append(g.Levels[last].Terms, n)
				slices.Sort(g.Levels[last].Terms)
			}
		}
	}
	return g
}

func randomSymbol(rnd *rand.Rand, g api.Grammar) api.Sym {
	if rnd.Intn(2) == 0 {
		return term(rnd.Intn(len(g.Terms)))
	}
	return non(rnd.Intn(len(g.Nons)))
}

// samples are grammars that may be.
func samples(t *testing.T) []api.Grammar {
	l := []api.Grammar{sum(), calc(), greatest()}
	rnd := rand.New(rand.NewSource(3))
	for range 300 {
		l = append(l, randomGrammar(rnd))
	}
	for _, g := range l {
		if e, at := grammar.Check(g); e != api.OK || at != 0 {
			t.Fatal("a sample that may not be:", g, e, at)
		}
	}
	return l
}

// copyOf is g in other memory, with nil for each list that is empty.
func copyOf(g api.Grammar) api.Grammar {
	out := api.Grammar{Start: g.Start}
	out.Terms = append(out.Terms, g.Terms...)
	out.Nons = append(out.Nons, g.Nons...)
	for _, p := range g.Prods {
		out.Prods = append(out.Prods, api.Prod{Left: p.Left, Right: append([]api.Sym(nil), p.Right...), Prec: p.Prec})
	}
	for _, l := range g.Levels {
		out.Levels = append(out.Levels, api.Level{Assoc: l.Assoc, Terms: append([]int(nil), l.Terms...)})
	}
	return out
}

func same(a, b api.Grammar) bool { return reflect.DeepEqual(copyOf(a), copyOf(b)) }

func isZero(g api.Grammar) bool { return same(g, api.Grammar{}) && g.Start == 0 }

// roomy is g with spare room behind each list, all of it marked.
func roomy(g api.Grammar) api.Grammar {
	g = copyOf(g)
	g.Terms = widen(g.Terms, "spare")
	g.Nons = widen(g.Nons, "spare")
	for i := range g.Prods {
		g.Prods[i].Right = widen(g.Prods[i].Right, term(77))
	}
	g.Prods = widen(g.Prods, api.Prod{Left: 77})
	for i := range g.Levels {
		g.Levels[i].Terms = widen(g.Levels[i].Terms, 77)
	}
	g.Levels = widen(g.Levels, api.Level{Assoc: 77})
	return g
}

func widen[T any](l []T, mark T) []T {
	out := append(slices.Clone(l), mark, mark, mark)
	return out[:len(l):len(out)]
}

// roomKept answers whether the spare room of what roomy made is as it was.
func roomKept(g api.Grammar) bool {
	ok := keeps(g.Terms, "spare") && keeps(g.Nons, "spare")
	for _, p := range g.Prods {
		ok = ok && keeps(p.Right, term(77))
	}
	for _, l := range g.Levels {
		ok = ok && keeps(l.Terms, 77)
	}
	return ok && keeps(g.Prods, api.Prod{Left: 77}) && keeps(g.Levels, api.Level{Assoc: 77})
}

func keeps[T any](l []T, mark T) bool {
	for _, one := range l[len(l):cap(l)] {
		if !reflect.DeepEqual(one, mark) {
			return false
		}
	}
	return cap(l) == len(l)+3
}

// span is the memory of a list, spare room and all.
type span struct{ from, to uintptr }

func spanOf[T any](l []T) span {
	v := reflect.ValueOf(l)
	return span{v.Pointer(), v.Pointer() + uintptr(cap(l))*v.Type().Elem().Size()}
}

func spansOf(g api.Grammar) []span {
	l := []span{spanOf(g.Terms), spanOf(g.Nons), spanOf(g.Prods), spanOf(g.Levels)}
	for _, p := range g.Prods {
		l = append(l, spanOf(p.Right))
	}
	for _, v := range g.Levels {
		l = append(l, spanOf(v.Terms))
	}
	return l
}

// apart answers whether no two of these share memory.
func apart(spans ...[]span) bool {
	l := slices.DeleteFunc(slices.Concat(spans...), func(s span) bool { return s.from == s.to })
	slices.SortFunc(l, func(a, b span) int { return cmp.Compare(a.from, b.from) })
	for i := 1; i < len(l); i++ {
		if l[i].from < l[i-1].to {
			return false
		}
	}
	return true
}

// P3.2: a symbol is in a grammar by its kind and number alone.
func TestIn(t *testing.T) {
	g := api.Grammar{Terms: []string{"", "", ""}, Nons: []string{""}}
	for _, c := range []struct {
		s    api.Sym
		want bool
	}{
		{term(0), true}, {term(2), true}, {term(3), false}, {term(-1), false},
		{non(0), true}, {non(1), false}, {non(-1), false},
		{term(math.MinInt), false}, {term(math.MaxInt), false},
		{non(math.MinInt), false}, {non(math.MaxInt), false},
		{api.Sym{}, false}, {api.Sym{Kind: 3}, false}, {api.Sym{Kind: -1}, false},
		{api.Sym{Kind: math.MaxInt}, false}, {api.Sym{Kind: math.MinInt}, false},
	} {
		if got := grammar.In(g, c.s); got != c.want {
			t.Errorf("In(%v): %v", c.s, got)
		}
	}
	for _, s := range syms(term(0), non(0), api.Sym{}) {
		if grammar.In(api.Grammar{}, s) {
			t.Errorf("In the empty grammar: %v", s)
		}
	}
	many := api.Grammar{Terms: numbered("t", 1000), Nons: numbered("n", 999)}
	if !grammar.In(many, term(999)) || !grammar.In(many, non(998)) || grammar.In(many, non(999)) {
		t.Error("of many symbols")
	}
}

// P3.2 and example 1: productions by their left side.
func TestRules(t *testing.T) {
	for _, c := range []struct {
		g    api.Grammar
		n    int
		want []int
	}{
		{sum(), 0, []int{0, 1}},
		{sum(), 1, nil},
		{sum(), -1, nil},
		{calc(), 0, []int{0, 1, 2, 3}},
		{calc(), 1, []int{4, 5}},
		{api.Grammar{}, 0, nil},
		{api.Grammar{Prods: []api.Prod{{Left: -5}, {Left: 7}, {Left: -5}}}, -5, []int{0, 2}},
		{api.Grammar{Prods: []api.Prod{{Left: math.MaxInt}, {Left: math.MinInt}}}, math.MinInt, []int{1}},
	} {
		if got := grammar.Rules(c.g, c.n); !slices.Equal(got, c.want) {
			t.Errorf("Rules(%v, %d): %v, want %v", c.g, c.n, got, c.want)
		}
	}
}

// P3.2 and example 1: places by their symbol, of a grammar that may not be, too.
func TestUses(t *testing.T) {
	odd := api.Grammar{Prods: []api.Prod{{Left: -5, Right: syms(api.Sym{Kind: 9, N: -1}, term(-3))}, {}, {Right: syms(term(-3), term(-3))}}}
	for _, c := range []struct {
		g    api.Grammar
		s    api.Sym
		want []api.Core
	}{
		{sum(), non(0), []api.Core{{Prod: 0, Dot: 0}, {Prod: 0, Dot: 2}}},
		{sum(), term(0), []api.Core{{Prod: 0, Dot: 1}}},
		{sum(), term(1), []api.Core{{Prod: 1, Dot: 0}}},
		{sum(), term(2), nil},
		{sum(), non(1), nil},
		{sum(), api.Sym{}, nil},
		{calc(), non(1), nil},
		{calc(), non(0), []api.Core{{Prod: 0, Dot: 0}, {Prod: 0, Dot: 2}, {Prod: 1, Dot: 0}, {Prod: 1, Dot: 2}, {Prod: 2, Dot: 1}, {Prod: 4, Dot: 0}}},
		{api.Grammar{}, non(0), nil},
		{odd, term(-3), []api.Core{{Prod: 0, Dot: 1}, {Prod: 2, Dot: 0}, {Prod: 2, Dot: 1}}},
		{odd, api.Sym{Kind: 9, N: -1}, []api.Core{{Prod: 0, Dot: 0}}},
	} {
		if got := grammar.Uses(c.g, c.s); !slices.Equal(got, c.want) {
			t.Errorf("Uses(%v, %v): %v, want %v", c.g, c.s, got, c.want)
		}
	}
}

// P3.6: every production is told once by Rules, every place of a right side once by Uses.
func TestUsesAndRulesTellAll(t *testing.T) {
	for _, g := range samples(t) {
		told := map[api.Core]int{}
		all := 0
		for n := range g.Terms {
			tell(t, g, term(n), told)
		}
		for n := range g.Nons {
			tell(t, g, non(n), told)
			for _, p := range grammar.Rules(g, n) {
				told[api.Core{Prod: p, Dot: -1}]++
				if g.Prods[p].Left != n {
					t.Fatal("Rules:", g, n, p)
				}
			}
		}
		for _, p := range g.Prods {
			all += 1 + len(p.Right)
		}
		for place, times := range told {
			if times != 1 {
				t.Fatal("told", times, "times:", g, place)
			}
		}
		if len(told) != all {
			t.Fatal("not all are told:", g, told)
		}
	}
}

func tell(t *testing.T, g api.Grammar, s api.Sym, told map[api.Core]int) {
	for _, c := range grammar.Uses(g, s) {
		told[c]++
		if g.Prods[c.Prod].Right[c.Dot] != s {
			t.Fatal("Uses:", g, s, c)
		}
	}
}

// P3.7: no call changes what it is given, not even in spare room.
func TestArgumentsStay(t *testing.T) {
	for _, plain := range append(samples(t), api.Grammar{}) {
		g := roomy(plain)
		terms, nons := widen(rand.New(rand.NewSource(1)).Perm(len(g.Terms)), 77), widen(rand.New(rand.NewSource(1)).Perm(len(g.Nons)), 77)
		termsBefore, nonsBefore := slices.Clone(terms), slices.Clone(nons)
		grammar.Check(g)
		grammar.In(g, non(0))
		grammar.Rules(g, 0)
		grammar.Uses(g, non(0))
		grammar.Reverse(g)
		grammar.Renumber(g, terms, nons)
		grammar.Encode(g)
		if !same(g, plain) || !roomKept(g) {
			t.Fatal("a grammar was changed:", plain, g)
		}
		if !slices.Equal(terms, termsBefore) || !slices.Equal(nons, nonsBefore) || !keeps(terms, 77) || !keeps(nons, 77) {
			t.Fatal("a list of numbers was changed:", terms, nons)
		}
	}
}

// P3.7: an answer shares memory neither with an argument, nor with another answer, nor with another list of its own.
func TestAnswersAreNew(t *testing.T) {
	for _, plain := range samples(t) {
		g := roomy(plain)
		code, _ := grammar.Encode(g)
		again, _ := grammar.Encode(g)
		terms, nons := rand.New(rand.NewSource(2)).Perm(len(g.Terms)), rand.New(rand.NewSource(2)).Perm(len(g.Nons))
		given := append(spansOf(g), spanOf(terms), spanOf(nons), spanOf(code))
		if !apart(given, []span{spanOf(again)}) {
			t.Fatal("Encode:", plain)
		}
		for name, call := range map[string]func() api.Grammar{
			"Reverse":  func() api.Grammar { out, _ := grammar.Reverse(g); return out },
			"Renumber": func() api.Grammar { out, _ := grammar.Renumber(g, terms, nons); return out },
			"Decode":   func() api.Grammar { out, _, _ := grammar.Decode(code); return out },
		} {
			first, second := call(), call()
			if isZero(first) || !apart(given, spansOf(first), spansOf(second)) {
				t.Fatal(name, plain)
			}
		}
		rules := [][]int{grammar.Rules(g, 0), grammar.Rules(g, 0)}
		uses := [][]api.Core{grammar.Uses(g, non(0)), grammar.Uses(g, non(0))}
		if !apart(given, []span{spanOf(rules[0]), spanOf(rules[1]), spanOf(uses[0]), spanOf(uses[1])}) {
			t.Fatal("Rules, Uses:", plain)
		}
	}
}
