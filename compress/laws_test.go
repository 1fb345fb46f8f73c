package compress_test

import (
	"math"
	"math/rand"
	"slices"
	"testing"

	"gantry/api"
	"gantry/canon"
	"gantry/compress"
	"gantry/grammar"
	"gantry/interp"
	"gantry/lookahead"
	"gantry/notation"
	"gantry/table"
)

// read is a grammar of a text.
func read(text string) api.Grammar {
	g, e, _ := notation.Parse(text)
	return must(g, e)
}

// tablesOf are a grammar's tables: of its automata, as they are built and with Defaults.
func tablesOf(g api.Grammar) []api.Table {
	automata := []api.Automaton{must(lookahead.Attach(g))}
	if a, e := canon.Canonical(g); e == api.OK {
		automata = append(automata, a)
	}
	var l []api.Table
	for _, a := range automata {
		y, _, _, e := table.Build(g, a)
		l = append(l, must(y, e), must(table.Defaults(g, y)))
	}
	return l
}

// isThere tells whether an owner's entry with that offset and value stands in its place.
func isThere(p api.Packed, owner, offset, value int) bool {
	place := [][]int{p.ActBase, p.GotoBase}[owner%2][owner/2] + offset
	return place < len(p.Owner) && p.Owner[place] == owner && p.Value[place] == value
}

// heldOfLaws holds what follows of a table that has its shape: P22.5 to P22.7.
func heldOfLaws(t *testing.T, g api.Grammar, y api.Table) api.Packed {
	t.Helper()
	p, e := compress.Pack(g, y)
	if e != api.OK {
		t.Fatal("Pack:", g, y, e)
	}
	if e, at := compress.Check(p); e != api.OK || at != 0 {
		t.Fatal("Check:", p, e, at)
	}
	count := 0
	for owner := range 2 * len(y.Rows) {
		for offset, value := range modelEntries(y, owner) {
			count++
			if !isThere(p, owner, offset, value) {
				t.Fatal("an entry is missing:", y, p, owner, offset)
			}
		}
	}
	taken := len(slices.DeleteFunc(slices.Clone(p.Owner), func(owner int) bool { return owner == -1 }))
	if taken != count || len(p.Owner) < count || len(p.Owner) > count*max(p.Terms+1, p.Nons) {
		t.Fatal("places:", y, p, taken, count)
	}
	if n, m, e := compress.Ratio(g, y); n != count || m != len(p.Owner) || e != api.OK {
		t.Fatal("Ratio:", n, m, e)
	}
	for _, state := range near(len(y.Rows)) {
		for _, n := range near(max(p.Terms+1, p.Nons)) {
			if x, want := compress.Action(p, state, n), table.Action(y, state, n); x != want {
				t.Fatal("Action:", y, p, state, n, x, want)
			}
			if to, want := compress.Goto(p, state, n), table.Goto(y, state, n); to != want {
				t.Fatal("Goto:", y, p, state, n, to, want)
			}
		}
	}
	if back, e := compress.Unpack(p); e != api.OK || !sameTable(back, y) {
		t.Fatal("Unpack:", y, p, back, e)
	}
	frame, e := compress.Encode(p)
	if q, f, at := compress.Decode(frame); e != api.OK || f != api.OK || at != 0 || !same(q, p) {
		t.Fatal("Decode:", p, q, e, f, at)
	}
	return p
}

// near are all numbers below n, some about it, and some far away.
func near(n int) []int {
	l := []int{math.MinInt, -2, -1, n + 1, 2 * n, 1 << 20, math.MaxInt}
	for i := range n + 1 {
		l = append(l, i)
	}
	return l
}

// P22.5 to P22.7: grammars that people write.
func TestPeople(t *testing.T) {
	for _, text := range []string{
		"S : '(' S ')' | 'x' ;",
		"%left '+' E : E '+' E | 'n' ;",
		"%left '+' '-' %left '*' %right '^' E : E '+' E | E '-' E | E '*' E | E '^' E | '(' E ')' | 'n' ;",
		"E : E '+' T | T ; T : T '*' F | F ; F : '(' E ')' | 'n' ;",
		"L : L 'x' | ;",
		"S : A B C ; A : 'a' | ; B : 'b' | ; C : 'c' | ;",
		"V : '{' M '}' | '[' L ']' | 's' | 'n' ; M : | P ; P : Q | P ',' Q ; Q : 's' ':' V ; L : | K ; K : V | K ',' V ;",
		"%term a b c d e S : a A d | b B d | a B e | b A e ; A : c ; B : c ;",
	} {
		g := read(text)
		for _, y := range tablesOf(g) {
			p := heldOfLaws(t, g, y)
			if q, _ := modelPack(g, y); !same(p, q) {
				t.Error(text, p, q)
			}
		}
	}
}

// P22.5 to P22.7: tables of drawn grammars, whatever conflicts they have.
func TestAnyGrammars(t *testing.T) {
	r := rand.New(rand.NewSource(2205))
	drawn := 0
	for drawn < 1000 {
		g := grammarOf(1+r.Intn(4), 1+r.Intn(4), 0)
		for range 1 + r.Intn(8) {
			p := prod(r.Intn(len(g.Nons)))
			for range r.Intn(4) {
				p.Right = append(p.Right, pick(r, []api.Sym{term(r.Intn(len(g.Terms))), non(r.Intn(len(g.Nons)))}))
			}
			g.Prods = append(g.Prods, p)
		}
		if e, _ := grammar.Check(g); e != api.OK {
			continue
		}
		drawn++
		for _, y := range tablesOf(g) {
			heldOfLaws(t, g, y)
			heldOfTable(t, g, y)
		}
	}
}

// P22.1, P22.5 to P22.7: tables of any shape and density.
func TestAnyShapes(t *testing.T) {
	r := rand.New(rand.NewSource(2206))
	gaps := 0
	for range 1500 {
		g := anyGrammar(r, 12, 12)
		y := anyTable(r, g, 1+r.Intn(12))
		heldOfTable(t, g, y)
		if p := heldOfLaws(t, g, y); slices.Contains(p.Owner, -1) {
			gaps++
		}
	}
	if gaps < 300 || gaps > 1200 {
		t.Error("gaps are too seldom, or too often:", gaps)
	}
}

// P22.1: every table of one row and of two over few symbols.
func TestSmallTables(t *testing.T) {
	g := sized(1, 2, 1)
	for _, n := range []int{1, 2} {
		var all []api.Row
		for _, a := range []int{-1, n - 1} {
			for _, b := range []int{-1, 0} {
				all = append(all, blind(0, 2, a, b))
				for _, x := range acts(fault, accept, by(0), to(0)) {
					for _, y := range acts(fault, accept, to(n-1)) {
						all = append(all, looks(acts(x, y), a, b))
					}
				}
			}
		}
		for _, one := range all {
			if n == 1 {
				heldOfTable(t, g, rows(one))
				heldOfLaws(t, g, rows(one))
				continue
			}
			for _, two := range all {
				heldOfTable(t, g, rows(one, two))
				heldOfLaws(t, g, rows(one, two))
			}
		}
	}
}

// P22.1: each set of places of one piece against each of another, by model.
func TestPairsOfPieces(t *testing.T) {
	g := sized(5, 1, 1)
	for one := range 1 << 6 {
		for two := range 1 << 6 {
			var y api.Table
			for _, set := range []int{one, two, one & two} {
				row := looks(make([]api.Action, 6), -1)
				for k := range row.Acts {
					if set>>k&1 == 1 {
						row.Acts[k] = to(0)
					}
				}
				y.Rows = append(y.Rows, row)
			}
			heldOfTable(t, g, y)
		}
	}
}

// P22.7: what is decoded is encoded as the same; packed tables that no call made, too: with places that nothing owns at the end, and entries that lie about in any order.
func TestLaidByHand(t *testing.T) {
	p := some()
	if e := heldOfPacked(t, p); e != api.OK {
		t.Fatal(e)
	}
	y := must(compress.Unpack(p))
	want := rows(looks(acts(accept, to(1), by(3)), -1, 0), blind(7, 3, 2, -1), looks(acts(fault, by(255), fault), -1, -1))
	if !sameTable(y, want) {
		t.Error(y)
	}
	for state := range 3 {
		for n := range 3 {
			if compress.Action(p, state, n) != table.Action(y, state, n) || compress.Goto(p, state, n) != table.Goto(y, state, n) {
				t.Error(state, n)
			}
		}
	}
	if q := must(compress.Pack(sized(2, 2, 256), y)); same(q, p) || len(q.Owner) != 6 {
		t.Error(q)
	}
}

// run asks a packed table of a word, and answers how many terminals were shifted, and whether it was accepted.
func run(g api.Grammar, p api.Packed, word []int) (int, bool) {
	stack, at := []int{0}, 0
	for {
		look := len(g.Terms)
		if at < len(word) {
			look = word[at]
		}
		switch x := compress.Action(p, stack[len(stack)-1], look); x.Kind {
		case api.ActShift:
			stack = append(stack, x.Arg)
			at++
		case api.ActReduce:
			stack = stack[:len(stack)-len(g.Prods[x.Arg].Right)]
			stack = append(stack, compress.Goto(p, stack[len(stack)-1], g.Prods[x.Arg].Left))
		default:
			return at, x.Kind == api.ActAccept
		}
	}
}

// G6 of DOC.md: a packed table does of every word what the table does, also behind its bytes.
func TestRuns(t *testing.T) {
	accepted := 0
	for _, text := range []string{
		"S : '(' S ')' | 'x' ;",
		"%left '+' %left '*' E : E '+' E | E '*' E | 'n' ;",
		"S : A B C ; A : 'a' | ; B : 'b' | ; C : 'c' | ;",
		"E : E '+' T | T ; T : T '*' F | F ; F : '(' E ')' | 'n' ;",
	} {
		g := read(text)
		for _, y := range tablesOf(g) {
			p, e, _ := compress.Decode(must(compress.Encode(must(compress.Pack(g, y)))))
			must(p, e)
			words := [][]int{nil}
			for len(words[0]) < 6 {
				w := words[0]
				words = words[1:]
				for k := range len(g.Terms) {
					words = append(words, append(slices.Clone(w), k))
				}
				tokens := make([]api.Token, len(w))
				for i, k := range w {
					tokens[i].Kind = k
				}
				want, e := interp.Run(g, y, tokens, 1000)
				must(want, e)
				at, ok := run(g, p, w)
				if ok != want.Accepted || !ok && at != want.At {
					t.Fatal(text, w, at, ok, want)
				}
				if ok {
					accepted++
				}
			}
		}
	}
	if accepted < 100 {
		t.Error("too seldom:", accepted)
	}
}

// FuzzDecode: P22.4, P22.7 of any body; what is taken does what its table does.
func FuzzDecode(f *testing.F) {
	f.Add(form(numbersOf(some())...))
	f.Add(form(numbersOf(nestPacked())...))
	f.Add(form(1, 1, 1, 0, 0, 0, 0))
	f.Fuzz(func(t *testing.T, body []byte) {
		if len(body) > 1<<12 {
			return
		}
		if heldOfBody(t, body) != api.OK {
			return
		}
		frame, _ := sealed(body)
		p, _, _ := compress.Decode(frame)
		heldOfPacked(t, p)
		y := must(compress.Unpack(p))
		for state := range len(y.Rows) + 1 {
			for n := range p.Terms + p.Nons + 2 {
				if compress.Action(p, state, n) != table.Action(y, state, n) || compress.Goto(p, state, n) != table.Goto(y, state, n) {
					t.Fatal(p, state, n)
				}
			}
		}
		heldOfLaws(t, sized(p.Terms, p.Nons, 256), y)
	})
}
