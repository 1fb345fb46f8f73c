package notation_test

import (
	"cmp"
	"math/rand"
	"reflect"
	"slices"
	"strconv"
	"strings"
	"testing"

	"gantry/api"
	"gantry/grammar"
	"gantry/notation"
)

func term(n int) api.Sym { return api.Sym{Kind: api.SymTerm, N: n} }
func non(n int) api.Sym  { return api.Sym{Kind: api.SymNon, N: n} }

func syms(l ...api.Sym) []api.Sym { return l }

// numbered are that many names: the letter, and the numbers from 0 on behind it.
func numbered(letter string, n int) []string {
	var l []string
	for i := range n {
		l = append(l, letter+strconv.Itoa(i))
	}
	return l
}

// plain is g with nil for each list that is empty.
func plain(g api.Grammar) api.Grammar {
	g.Terms = append([]string(nil), g.Terms...)
	g.Nons = append([]string(nil), g.Nons...)
	g.Prods = append([]api.Prod(nil), g.Prods...)
	for i := range g.Prods {
		g.Prods[i].Right = append([]api.Sym(nil), g.Prods[i].Right...)
	}
	g.Levels = append([]api.Level(nil), g.Levels...)
	for i := range g.Levels {
		g.Levels[i].Terms = append([]int(nil), g.Levels[i].Terms...)
	}
	return g
}

func same(a, b api.Grammar) bool { return reflect.DeepEqual(plain(a), plain(b)) }

// greatest is at every limit, its names too.
func greatest() api.Grammar {
	g := api.Grammar{Start: 63}
	for i := range 64 {
		n := strconv.Itoa(i)
		g.Terms = append(g.Terms, "'"+strings.Repeat("#", 30-len(n))+n+"'")
		g.Nons = append(g.Nons, strings.Repeat("N", 32-len(n))+n)
	}
	for i := range 32 {
		g.Levels = append(g.Levels, api.Level{Assoc: api.Assoc(i%3 + 1), Terms: []int{i, 63 - i}})
	}
	for i := range 256 {
		p := api.Prod{Left: i % 64, Prec: i%65 - 1}
		for at := range 16 {
			p.Right = append(p.Right, api.Sym{Kind: api.SymTerm + api.SymKind(at%2), N: (i + at) % 64})
		}
		p.Right[15] = term(i / 64)
		g.Prods = append(g.Prods, p)
	}
	return g
}

// randomGrammar is a small grammar that may be.
func randomGrammar(rnd *rand.Rand) api.Grammar {
	all := []string{"'+'", "n", "'%term'", "N", "':'", "'#'", "_", "';'", "e9"}
	rnd.Shuffle(len(all), func(i, j int) { all[i], all[j] = all[j], all[i] })
	g := api.Grammar{Terms: all[:1+rnd.Intn(5)]}
	for _, name := range all[5:] {
		if name[0] != '\'' {
			g.Nons = append(g.Nons, name)
		}
	}
	g.Nons = append(g.Nons, "S")
	g.Start = rnd.Intn(len(g.Nons))
	for range 1 + rnd.Intn(6) {
		p := api.Prod{Left: rnd.Intn(len(g.Nons)), Prec: rnd.Intn(len(g.Terms)+1) - 1}
		for range rnd.Intn(4) {
			s := term(rnd.Intn(len(g.Terms)))
			if rnd.Intn(2) == 0 {
				s = non(rnd.Intn(len(g.Nons)))
			}
			p.Right = append(p.Right, s)
		}
		g.Prods = append(g.Prods, p)
	}
	for _, n := range rnd.Perm(len(g.Terms)) {
		if rnd.Intn(2) == 0 {
			g.Levels = append(g.Levels, api.Level{Assoc: api.Assoc(1 + rnd.Intn(3)), Terms: []int{n}})
		} else if last := len(g.Levels) - 1; last >= 0 {
			g.Levels[last].Terms = append(g.Levels[last].Terms, n)
			slices.Sort(g.Levels[last].Terms)
		}
	}
	return g
}

// samples are grammars that may be.
func samples() []api.Grammar {
	l := []api.Grammar{
		{Terms: []string{"a"}, Nons: []string{"S"}, Prods: []api.Prod{{Prec: -1}}},
		{Terms: []string{"a", "b"}, Nons: []string{"S", "T"}, Start: 1, Prods: []api.Prod{{Right: syms(term(1), non(1)), Prec: 0}}},
	}
	rnd := rand.New(rand.NewSource(4))
	for len(l) < 1000 {
		if g := randomGrammar(rnd); may(g) {
			l = append(l, g)
		}
	}
	return l
}

func may(g api.Grammar) bool {
	e, _ := grammar.Check(g)
	return e == api.OK
}

// refuses asks that text is refused with that error and place, and with nothing beside.
func refuses(t *testing.T, text string, e api.Errno, at int) {
	t.Helper()
	g, gotE, gotAt := notation.Parse(text)
	if gotE != e || gotAt != at || !reflect.DeepEqual(g, api.Grammar{}) {
		t.Errorf("%.200q: %v at %d (%v), want %v at %d", text, gotE, gotAt, g, e, at)
	}
}

// takes asks that text is read as the grammar want.
func takes(t *testing.T, text string, want api.Grammar) {
	t.Helper()
	g, e, at := notation.Parse(text)
	if e != api.OK || at != 0 || !same(g, want) {
		t.Errorf("%.200q: %v at %d, %v, want %v", text, e, at, g, want)
	}
}

// P4.2: the whole of what is printed, with each kind of line.
func TestPrint(t *testing.T) {
	for _, c := range []struct {
		g    api.Grammar
		want string
	}{
		{
			api.Grammar{Terms: []string{"a"}, Nons: []string{"S"}, Prods: []api.Prod{{Prec: -1}}},
			"%term a\n%non S\n%start S\nS : %empty ;\n",
		},
		{
			api.Grammar{
				Terms: []string{"n", "'+'", "'*'", "'='"},
				Nons:  []string{"E", "S"},
				Start: 1,
				Prods: []api.Prod{
					{Left: 0, Right: syms(non(0), term(1), non(0)), Prec: -1},
					{Left: 0, Right: syms(term(0)), Prec: 0},
					{Left: 1, Right: syms(non(0)), Prec: -1},
					{Left: 0, Prec: 2},
				},
				Levels: []api.Level{
					{Assoc: api.AssocNone, Terms: []int{3}},
					{Assoc: api.AssocLeft, Terms: []int{0, 1}},
					{Assoc: api.AssocRight, Terms: []int{2}},
				},
			},
			"%term n '+' '*' '='\n%non E S\n%nonassoc '='\n%left n '+'\n%right '*'\n%start S\nE : E '+' E ;\nE : n %prec n ;\nS : E ;\nE : %empty %prec '*' ;\n",
		},
	} {
		if got, e := notation.Print(c.g); e != api.OK || got != c.want {
			t.Errorf("%v: %q %v, want %q", c.g, got, e, c.want)
		}
	}
}

// P4.2: of what may not be, Check's error and no text.
func TestPrintRefuses(t *testing.T) {
	good := samples()[1]
	for e, spoil := range map[api.Errno]func(*api.Grammar){
		api.ErrTerms:  func(g *api.Grammar) { g.Terms = nil },
		api.ErrNons:   func(g *api.Grammar) { g.Nons = nil },
		api.ErrName:   func(g *api.Grammar) { g.Nons[0] = "'x'" },
		api.ErrTwice:  func(g *api.Grammar) { g.Terms[0] = "S" },
		api.ErrStart:  func(g *api.Grammar) { g.Start = 2 },
		api.ErrProds:  func(g *api.Grammar) { g.Prods = nil },
		api.ErrSymbol: func(g *api.Grammar) { g.Prods[0].Right[0] = term(2) },
		api.ErrRight:  func(g *api.Grammar) { g.Prods[0].Right = make([]api.Sym, 17) },
		api.ErrPrec:   func(g *api.Grammar) { g.Prods[0].Prec = 2 },
		api.ErrLevel:  func(g *api.Grammar) { g.Levels = []api.Level{{Assoc: 4, Terms: []int{0}}} },
		api.ErrRange:  func(g *api.Grammar) { g.Levels = []api.Level{{Assoc: 1, Terms: []int{-1}}} },
		api.ErrOrder:  func(g *api.Grammar) { g.Levels = []api.Level{{Assoc: 1, Terms: []int{1, 0}}} },
	} {
		g := plain(good)
		spoil(&g)
		if text, got := notation.Print(g); got != e || text != "" {
			t.Errorf("%v: %q %v, want %v", g, text, got, e)
		}
	}
}

// P4.3: a grammar's text is read back as the grammar, and told as the same text.
func TestThereAndBack(t *testing.T) {
	for _, g := range samples() {
		text, e := notation.Print(g)
		if e != api.OK {
			t.Fatal(g, e)
		}
		takes(t, text, g)
	}
}

// P4.3: a text that is too long to be read is printed all the same.
func TestPrintGreatest(t *testing.T) {
	g := greatest()
	text, e := notation.Print(g)
	if e != api.OK || len(text) <= api.MaxText {
		t.Fatal(len(text), e)
	}
	refuses(t, text, api.ErrText, 0)
	short := greatest()
	short.Nons = numbered("n", 64)
	short.Terms = numbered("t", 64)
	text, e = notation.Print(short)
	if e != api.OK || len(text) > api.MaxText {
		t.Fatal(len(text), e)
	}
	takes(t, text, short)
}

// span is the memory of a list, spare room and all.
type span struct{ from, to uintptr }

// spansOf are those of all lists in v.
func spansOf(v reflect.Value) []span {
	var l []span
	switch v.Kind() {
	case reflect.Struct:
		for i := range v.NumField() {
			l = append(l, spansOf(v.Field(i))...)
		}
	case reflect.Slice:
		if v.Cap() > 0 {
			l = append(l, span{v.Pointer(), v.Pointer() + uintptr(v.Cap())*v.Type().Elem().Size()})
		}
		for i := range v.Len() {
			l = append(l, spansOf(v.Index(i))...)
		}
	}
	return l
}

func apart(l []span) bool {
	slices.SortFunc(l, func(a, b span) int { return cmp.Compare(a.from, b.from) })
	for i := 1; i < len(l); i++ {
		if l[i].from < l[i-1].to {
			return false
		}
	}
	return true
}

// P4.6: no two lists of one answer, or of two, share memory.
func TestAnswersAreNew(t *testing.T) {
	for _, g := range samples() {
		text, _ := notation.Print(g)
		first, _, _ := notation.Parse(text)
		second, _, _ := notation.Parse(text)
		if !apart(append(spansOf(reflect.ValueOf(first)), spansOf(reflect.ValueOf(second))...)) {
			t.Fatal("lists share memory:", text)
		}
		if !same(first, g) || !same(second, g) {
			t.Fatal("an answer changed:", text)
		}
	}
}

// roomy is g with spare room behind each list, marked by a zero value.
func roomy(g api.Grammar) api.Grammar {
	g.Terms = append(slices.Clone(g.Terms), "")[:len(g.Terms)]
	g.Nons = append(slices.Clone(g.Nons), "")[:len(g.Nons)]
	g.Prods = append(slices.Clone(g.Prods), api.Prod{})[:len(g.Prods)]
	for i, p := range g.Prods {
		g.Prods[i].Right = append(slices.Clone(p.Right), api.Sym{})[:len(p.Right)]
	}
	g.Levels = append(slices.Clone(g.Levels), api.Level{})[:len(g.Levels)]
	for i, l := range g.Levels {
		g.Levels[i].Terms = append(slices.Clone(l.Terms), 0)[:len(l.Terms)]
	}
	return g
}

// roomKept answers whether the first place of each list's spare room is zero.
func roomKept(g api.Grammar) bool {
	ok := zeroBehind(g.Terms) && zeroBehind(g.Nons) && zeroBehind(g.Prods) && zeroBehind(g.Levels)
	for _, p := range g.Prods {
		ok = ok && zeroBehind(p.Right)
	}
	for _, l := range g.Levels {
		ok = ok && zeroBehind(l.Terms)
	}
	return ok
}

func zeroBehind[T any](l []T) bool {
	return reflect.ValueOf(l[:len(l)+1]).Index(len(l)).IsZero()
}

// P4.6: Print changes nothing of what it is given, not even in spare room.
func TestArgumentsStay(t *testing.T) {
	for _, g := range append(samples(), greatest(), api.Grammar{}) {
		given := roomy(g)
		notation.Print(given)
		if !same(given, g) || !roomKept(given) {
			t.Fatal("changed:", g, given)
		}
	}
}
