package validate_test

import (
	"slices"
	"testing"

	"gantry/api"
	"gantry/validate"
)

const most = 2048

// rows has right sides of terminals alone, by which it has just so many states (from 3 on): state 0, that behind start, and one for each beginning of a right side.
func rows(states int) api.Grammar {
	g := grammarOf(64, 1, 0)
	for left := states - 2; left > 0; {
		n := len(g.Prods)
		known := 0
		if n >= 64 { // the first terminal stood ahead of another row
			known = 1
		}
		length := min(16, known+left)
		row := slices.Repeat(syms(term(n/64)), length)
		row[0] = term(n % 64)
		g.Prods = append(g.Prods, prod(0, row...))
		left -= length - known
	}
	return g
}

// P18.9: a table with as many states as there may be.
func TestMostStates(t *testing.T) {
	g := rows(most)
	for _, defaults := range []bool{false, true} {
		b := merged(g, defaults)
		if v, e, at := validate.Validate(g, b); e != api.OK || at != 0 || len(b.Table.Rows) != most || !sameTable(v.Table(), b.Table) || !sameGrammar(v.Grammar(), g) {
			t.Error(defaults, e, at)
		}
		last := &b.Cert.PastStates[most-1]
		*last = slices.Clone(*last)
		(*last)[0] = nil
		if _, e, _ := validate.Validate(g, b); e != api.ErrPast {
			t.Error("the last state:", defaults, e)
		}
		b.Table.Rows = append(b.Table.Rows, b.Table.Rows[most-1])
		if _, e, at := validate.Validate(g, b); e != api.ErrStates || at != 0 {
			t.Error("one more:", defaults, e, at)
		}
	}
}

// upTo is the numbers from 0 below n.
func upTo(n int) []int {
	l := make([]int, n)
	for i := range l {
		l[i] = i
	}
	return l
}

// flat is S → t n for each nonterminal n but S and each terminal t of its number, n → t: 64 of each.
func flat() api.Grammar {
	g := grammarOf(64, 64, 0, prod(0, term(0)))
	for n := 1; n < 64; n++ {
		g.Prods = append(g.Prods, prod(0, term(n), non(n)), prod(n, term(n)))
	}
	return g
}

// idle is a bundle of so many rows that does nothing, and claims of it as little as may be.
func idle(g api.Grammar, rows int) api.Bundle {
	var b api.Bundle
	for range rows {
		b.Table.Rows = append(b.Table.Rows, looks(make([]api.Action, len(g.Terms)+1), slices.Repeat([]int{-1}, len(g.Nons))...))
		b.Cert.PastStates = append(b.Cert.PastStates, [][]int{nil})
	}
	b.Cert.PastStates[0] = nil
	b.Cert.Items, b.Cert.PastSyms = make([][]api.Item, rows), make([][]api.Sym, rows)
	b.Cert.Incoming = slices.Repeat(syms(non(0)), rows)
	b.Cert.Incoming[0] = api.Sym{}
	b.Cert.Nullable = make([]bool, len(g.Nons))
	for range g.Nons {
		b.Cert.First = append(b.Cert.First, upTo(len(g.Terms)))
	}
	return b
}

func soundOf(g api.Grammar, b api.Bundle) answer {
	e, at := validate.Sound(g, b)
	return answer{e, at}
}

func completeOf(g api.Grammar, b api.Bundle) answer {
	e, at := validate.Complete(g, b)
	return answer{e, at}
}

func endsOf(g api.Grammar, b api.Bundle) answer {
	e, at := validate.Ends(g, b)
	return answer{e, at}
}

// P18.2: edges over all symbols from all states, which all may stand below all.
func TestManyEdges(t *testing.T) {
	g := flat()
	b := idle(g, most)
	for n, s := range symbolsOf(g) {
		for from := range most {
			row := b.Table.Rows[from]
			if s.Kind == api.SymTerm {
				row.Acts[s.N] = to(1 + n)
			} else {
				row.Gotos[s.N] = 1 + n
			}
		}
		b.Cert.Incoming[1+n] = s
		b.Cert.PastStates[1+n] = [][]int{upTo(most)}
	}
	if a := soundOf(g, b); a != fine {
		t.Error("all:", a)
	}
	b.Cert.PastStates[128] = [][]int{upTo(most - 1)}
	if a := soundOf(g, b); a != (answer{api.ErrPast, most - 1}) {
		t.Error("the last edge:", a)
	}
}

// P18.2: each state stands for its last two symbols, of 45; of all that lies below all states are claimed.
func TestManyPastStates(t *testing.T) {
	const width = 45
	g := flat()
	b := idle(g, most)
	state := func(i, j int) int { return 1 + i*width + j }
	for i := range width {
		for j := range width {
			n := state(i, j)
			for k := range width {
				b.Table.Rows[n].Gotos[k] = state(j, k)
			}
			b.Cert.Incoming[n], b.Cert.PastSyms[n], b.Cert.PastStates[n] = non(j), syms(non(i)), [][]int{upTo(most), upTo(most)}
		}
	}
	if a := soundOf(g, b); a != fine {
		t.Error("all:", a)
	}
	b.Cert.PastStates[state(0, 0)] = [][]int{upTo(most), upTo(most)[1:]}
	if a := soundOf(g, b); a != (answer{api.ErrPast, state(0, 0)}) {
		t.Error("one state less:", a)
	}
	b.Cert.PastStates[state(44, 44)] = [][]int{upTo(most), upTo(most - 1)}
	b.Cert.PastStates[state(0, 0)] = [][]int{upTo(most), upTo(most)}
	if a := soundOf(g, b); a != (answer{api.ErrPast, state(0, 44)}) {
		t.Error("one state less of the last:", a)
	}
}

// P18.2: a loop of all states, 16 past symbols of each, and all states in each of 17 places below.
func TestDeepPastStates(t *testing.T) {
	g := flat()
	b := idle(g, most)
	all := upTo(most)
	for n := 1; n < most; n++ {
		b.Table.Rows[n].Gotos[7] = n%(most-1) + 1
		b.Cert.Incoming[n], b.Cert.PastSyms[n], b.Cert.PastStates[n] = non(7), slices.Repeat(syms(non(7)), 16), slices.Repeat([][]int{all}, 17)
	}
	if a := soundOf(g, b); a != fine {
		t.Error("all:", a)
	}
	b.Cert.PastStates[most-1] = slices.Concat(b.Cert.PastStates[1][:16], [][]int{all[1:]})
	if a := soundOf(g, b); a != (answer{api.ErrPast, most - 2}) {
		t.Error("the last list of the last state:", a)
	}
	b.Cert.PastStates[most-1], b.Cert.PastSyms[1] = b.Cert.PastStates[1], slices.Repeat(syms(non(7)), 16)
	b.Cert.PastSyms[1][15] = non(8)
	if a := soundOf(g, b); a != (answer{api.ErrPast, most - 1}) { // from 1 on the symbol lies too deep
		t.Error("the last symbol:", a)
	}
}

// P18.2: each state reduces another production under each lookahead, and each of these may uncover all states.
func TestManyReductions(t *testing.T) {
	g := grammarOf(64, 64, 0, prod(0, non(1)))
	for n := 1; n < 64; n++ {
		g.Prods = append(g.Prods, prod(n, term(0)), prod(0, term(n), non(n)))
	}
	if !isWell(g) {
		t.Fatal("not well-formed")
	}
	b := idle(g, most)
	all := upTo(most)
	for n := range most { // states 1 to 63 come behind the nonterminals of these numbers, all others behind the terminal that is reduced
		for k := 1; k < 64; k++ {
			b.Table.Rows[n].Gotos[k] = k
		}
		if n > 0 {
			b.Cert.PastStates[n] = [][]int{all}
		}
		if n > 0 && n < 64 {
			b.Cert.Incoming[n] = non(n)
			continue
		}
		if n > 0 {
			b.Cert.Incoming[n] = term(0)
			for look := range 63 {
				b.Table.Rows[n].Acts[look] = by(2*look + 1)
			}
		}
	}
	if a := soundOf(g, b); a != fine {
		t.Error("all:", a)
	}
	b.Table.Rows[most-1].Gotos[63] = -1
	if a := soundOf(g, b); a != (answer{api.ErrGoto, 64}) {
		t.Error("one goto less:", a)
	}
	for n := 64; n < most-1; n++ {
		b.Cert.PastStates[n] = [][]int{all[:most-1]}
	}
	if a := soundOf(g, b); a != (answer{api.ErrGoto, most - 1}) {
		t.Error("one goto less, of the last:", a)
	}
}

// P18.3: all items in all states; only those of state 0 and of the last have lookaheads, and the last can't do what these want.
func TestManyItems(t *testing.T) {
	g := grammarOf(64, 64, 0)
	for p := range 256 {
		g.Prods = append(g.Prods, prod(p/4, append(slices.Repeat(syms(term(p%64)), 15-p%4), non((p/4+1)%64))...))
	}
	g.Prods[255] = prod(63, term(63))
	if !isWell(g) {
		t.Fatal("not well-formed")
	}
	var every, marked []api.Item
	for p := -1; p < len(g.Prods); p++ {
		for dot := range len(rightOf(g, p)) + 1 {
			every, marked = append(every, item(p, dot)), append(marked, item(p, dot, 64))
		}
	}
	b := idle(g, most)
	for n := range most {
		next := max(1, (n+7)%(most-1))
		if n == 0 {
			next = most - 1
		}
		for look := range 64 {
			b.Table.Rows[n].Acts[look] = to(next)
			b.Table.Rows[n].Gotos[look] = next
		}
		b.Cert.Items[n] = every
	}
	b.Cert.Items[0], b.Cert.Items[most-1] = nil, marked
	for _, i := range marked {
		if i.Prod < 4 && i.Dot == 0 {
			b.Cert.Items[0] = append(b.Cert.Items[0], i)
		}
	}
	if a := completeOf(g, b); a != (answer{api.ErrClosure, most - 1}) { // its items advanced have no lookaheads where its edges lead
		t.Error("the last state:", a)
	}
	b.Cert.Items[most-2] = every[:len(every)-1]
	if a := completeOf(g, b); a.e != api.ErrClosure || a.at >= most-2 {
		t.Error("the last but one:", a)
	}
}

// P18.4: ways and loops through as many states as there may be.
func TestLongLoops(t *testing.T) {
	g := flat()
	b := idle(g, most)
	b.Cert.Nullable[5] = true
	for n := range most - 1 {
		b.Table.Rows[n].Gotos[5] = n + 1
	}
	if a := endsOf(g, b); a != fine {
		t.Error("a way up:", a)
	}
	b.Table.Rows[most-1].Gotos[5] = 1000
	if a := endsOf(g, b); a != (answer{api.ErrLoop, 1000}) {
		t.Error("back to 1000:", a)
	}
	b.Cert.Nullable[5] = false
	if a := endsOf(g, b); a != fine {
		t.Error("not nullable:", a)
	}
	for n := range most {
		b.Table.Rows[n].Gotos[5] = n - 1
		for k := 6; k < 64; k++ {
			b.Cert.Nullable[k] = true
			b.Table.Rows[n].Gotos[k] = max(-1, n-k)
		}
	}
	b.Cert.Nullable[5] = true
	if a := endsOf(g, b); a != fine {
		t.Error("ways down:", a)
	}
	b.Table.Rows[0].Gotos[63] = most - 1
	if a := endsOf(g, b); a != (answer{api.ErrLoop, 0}) {
		t.Error("from 0 to the last:", a)
	}
	b.Table.Rows[0].Gotos[63] = -1
	b.Table.Rows[most-2].Gotos[63] = most - 1
	if a := endsOf(g, b); a != (answer{api.ErrLoop, most - 2}) {
		t.Error("between the last two:", a)
	}
}
