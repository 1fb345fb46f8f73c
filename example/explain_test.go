package example_test

import (
	"slices"
	"testing"

	"gantry/api"
	"gantry/example"
	"gantry/trees"
)

// proof is one in short: a thing, its word, its tree's text, and which move.
type proof struct {
	act  api.Action
	word []int
	tree string
	move int
}

// heldOfProofs asks for the proofs of the conflict in a state under a lookahead.
func heldOfProofs(t *testing.T, g api.Grammar, state, look int, want ...proof) {
	t.Helper()
	l := conflictsOf(g)
	at := slices.IndexFunc(l, func(c api.Conflict) bool { return c.State == state && c.Look == look })
	if at < 0 {
		t.Fatal("no such conflict:", l)
	}
	got, e := example.Explain(g, l[at], api.MaxLength)
	if e != api.OK || len(got) != len(want) {
		t.Fatal(got, e)
	}
	longest := 0
	for n, p := range got {
		text := must(trees.Print(g, p.Tree))
		if p.Act != want[n].act || !slices.Equal(p.Word, want[n].word) || text != want[n].tree || p.Move != want[n].move {
			t.Error(p.Act, p.Word, text, p.Move, "want", want[n])
		}
		longest = max(longest, len(p.Word))
	}
	if again, e := example.Explain(g, l[at], longest); e != api.OK || !slices.EqualFunc(got, again, sameProof) {
		t.Error("just long enough:", again, e)
	}
	if longest > 0 {
		if l, e := example.Explain(g, l[at], longest-1); e != api.ErrSearch || len(l) != 0 {
			t.Error("too short:", l, e)
		}
	}
}

// P21.2: of each thing the first word and its first tree, and the first move of it.
func TestExplain(t *testing.T) {
	heldOfProofs(t, sums(), 4, 0,
		proof{shift(3), []int{1, 0, 1, 0, 1}, "(n0 (n0 t1) t0 (n0 (n0 t1) t0 (n0 t1)))", 5},
		proof{reduce(0), []int{1, 0, 1, 0, 1}, "(n0 (n0 (n0 t1) t0 (n0 t1)) t0 (n0 t1))", 5})
	// S → i S, S → i S e S, S → x
	dangling := readOf(t, "%term i e x S : i S | i S e S | x ;")
	heldOfProofs(t, dangling, 4, 1,
		proof{shift(5), []int{0, 2, 1, 2}, "(S i (S x) e (S x))", 3},
		proof{reduce(0), []int{0, 0, 2, 1, 2}, "(S i (S i (S x)) e (S x))", 4})
	// Two reductions, with the end marker next; and a state that was merged, whose words are unlike.
	heldOfProofs(t, readOf(t, "%term a S : A | B ; A : a ; B : a ;"), 1, 1,
		proof{reduce(2), []int{0}, "(S (A a))", 1},
		proof{reduce(3), []int{0}, "(S (B a))", 1})
	crossed := readOf(t, "%term a b c d e S : a A d | b B d | a B e | b A e ; A : c ; B : c ;")
	heldOfProofs(t, crossed, 4, 3,
		proof{reduce(4), []int{0, 2, 3}, "(S a (A c) d)", 2},
		proof{reduce(5), []int{1, 2, 3}, "(S b (B c) d)", 2})
	heldOfProofs(t, crossed, 4, 4,
		proof{reduce(4), []int{1, 2, 4}, "(S b (A c) e)", 2},
		proof{reduce(5), []int{0, 2, 4}, "(S a (B c) e)", 2})
	// Three things; nothing at all is the word of two of them.
	three := readOf(t, "%term a S : A | B | A a ; A : ; B : ;")
	heldOfProofs(t, three, 0, 1,
		proof{reduce(3), nil, "(S (A))", 0},
		proof{reduce(4), nil, "(S (B))", 0})
	// A shift and two reductions.
	heldOfProofs(t, readOf(t, "%term a S : a | A a | B a ; A : ; B : ;"), 0, 0,
		proof{shift(1), []int{0}, "(S a)", 0},
		proof{reduce(3), []int{0}, "(S (A) a)", 0},
		proof{reduce(4), []int{0}, "(S (B) a)", 0})
}

// P21.2: of a word's trees the first that makes the move, which others do not make; and of its moves the first, where several are such.
func TestWhichTree(t *testing.T) {
	// a a: by B ahead of by C, and D is nothing at each of its places
	g := readOf(t, "%term a S : B | C ; B : a a ; C : D a D a D | E a D a D ; D : ; E : ;")
	heldOfProofs(t, g, 0, 0,
		proof{shift(1), []int{0, 0}, "(S (B a a))", 0},
		proof{reduce(5), []int{0, 0}, "(S (C (D) a (D) a (D)))", 0},
		proof{reduce(6), []int{0, 0}, "(S (C (E) a (D) a (D)))", 0})
	// The same state comes thrice: the first time counts.
	h := readOf(t, "%term a b S : T T T ; T : a | A b | B b ; A : ; B : ;")
	for _, c := range conflictsOf(h) {
		for _, p := range must(example.Explain(h, c, 64)) {
			if m := must(example.Moves(h, p.Tree)); slices.IndexFunc(m, func(m example.Move) bool { return m.State == c.State && m.Act == p.Act }) != p.Move {
				t.Error(c, p)
			}
		}
	}
	// The second n + n + n is reduced with a + next only where it groups to the left, somewhere in the middle.
	k := readOf(t, "%term a b S : E | E b S ; E : E a E | b ;")
	for _, c := range conflictsOf(k) {
		got, e := example.Explain(k, c, 9)
		want, f := modelOf(k).explain(c, 9)
		if e != f || !slices.EqualFunc(got, want, sameProof) {
			t.Error(c, got, e, want, f)
		}
	}
}

// many has that many transitions, if it is from 64 on.
func many(n int) api.Grammar {
	g := grammarOf(64, 64, 0, prod(63, term(0)))
	for i := range 63 {
		g.Prods = append(g.Prods, prod(i, non(i+1)))
	}
	for row, left := 1, n-64; left > 0; row++ {
		from, length := 0, min(15, left/64)
		if length == 0 {
			from, length = 64-left, 1
		}
		g.Prods = append(g.Prods, prod(0, append([]api.Sym{term(row)}, slices.Repeat([]api.Sym{non(from)}, length)...)...))
		left -= length * (64 - from)
	}
	return g
}

// P21.2: which fault of Explain goes ahead.
func TestExplainFaults(t *testing.T) {
	c := conflictsOf(sums())[0]
	broken := sums()
	broken.Prods[0].Left = 7
	circular := sums()
	circular.Prods = append(circular.Prods, prod(0, non(0)))
	unreached := sums()
	unreached.Nons = append(unreached.Nons, "U")
	unreached.Prods = append(unreached.Prods, prod(1, non(1)))
	ring := rowsOf(api.MaxStates + 1)
	ring.Prods = append(ring.Prods, prod(0, non(0)))
	for name, x := range map[string]struct {
		g      api.Grammar
		c      api.Conflict
		length int
		want   api.Errno
	}{
		"no grammar":                          {api.Grammar{}, c, 5, api.ErrTerms},
		"a broken grammar, and a length":      {broken, c, -1, api.ErrSymbol},
		"a circular nonterminal":              {circular, c, 5, api.ErrCycle},
		"one that is not reached":             {unreached, c, 5, api.ErrCycle},
		"a circular one, and a length":        {circular, api.Conflict{}, 65, api.ErrCycle},
		"a circular one, and many states":     {ring, c, 5, api.ErrCycle},
		"below 0":                             {sums(), c, -1, api.ErrRange},
		"above MaxLength":                     {sums(), c, 65, api.ErrRange},
		"a length, and no conflict":           {sums(), api.Conflict{}, 65, api.ErrRange},
		"a length, and many states":           {rowsOf(api.MaxStates + 1), c, 65, api.ErrRange},
		"too many states":                     {rowsOf(api.MaxStates + 1), c, 5, api.ErrStates},
		"too many transitions":                {many(4097), c, 5, api.ErrMany},
		"as many transitions as there may be": {many(4096), c, 5, api.ErrNone},
		"no conflicts":                        {nest(), c, 5, api.ErrNone},
		"the zero conflict":                   {sums(), api.Conflict{}, 5, api.ErrNone},
		"too short":                           {sums(), c, 4, api.ErrSearch},
		"nothing":                             {sums(), c, 0, api.ErrSearch},
	} {
		if l, e := example.Explain(x.g, x.c, x.length); e != x.want || len(l) != 0 {
			t.Error(name, l, e, "want", x.want)
		}
	}
}

// P21.2: a conflict is compared field by field.
func TestNoSuchConflict(t *testing.T) {
	g := readOf(t, "%term a S : a | A a | B a ; A : ; B : ;")
	c := conflictsOf(g)[0]
	if c.Look != 0 || c.Shift != 1 || !slices.Equal(c.Reduce, []int{3, 4}) {
		t.Fatal(c)
	}
	for _, x := range []api.Conflict{
		{State: 1, Look: 0, Shift: 1, Reduce: []int{3, 4}},
		{State: -1, Look: 0, Shift: 1, Reduce: []int{3, 4}},
		{State: 0, Look: 1, Shift: 1, Reduce: []int{3, 4}},
		{State: 0, Look: 0, Shift: -1, Reduce: []int{3, 4}},
		{State: 0, Look: 0, Shift: 2, Reduce: []int{3, 4}},
		{State: 0, Look: 0, Shift: 1, Reduce: []int{3}},
		{State: 0, Look: 0, Shift: 1, Reduce: []int{4}},
		{State: 0, Look: 0, Shift: 1, Reduce: []int{4, 3}},
		{State: 0, Look: 0, Shift: 1, Reduce: []int{3, 4, 4}},
		{State: 0, Look: 0, Shift: 1, Reduce: []int{-1, 3, 4}},
		{State: 0, Look: 0, Shift: 1},
	} {
		if l, e := example.Explain(g, x, 5); e != api.ErrNone || len(l) != 0 {
			t.Error(x, l, e)
		}
	}
	if l, e := example.Explain(g, api.Conflict{State: 0, Look: 0, Shift: 1, Reduce: []int{3, 4}}, 5); e != api.OK || len(l) != 3 {
		t.Error(l, e)
	}
}

// P21.2: a thing that no tree wants, for a symbol that must stand behind is barren.
func TestNoProof(t *testing.T) {
	for _, text := range []string{
		"%term a b S : a B | A B ; A : a ; B : b B ;",
		"%term a b S : a b | A b U ; A : a ; U : a U ;",
	} {
		g := readOf(t, text)
		l := conflictsOf(g)
		if len(l) != 1 {
			t.Fatal(text, l)
		}
		if p, e := example.Explain(g, l[0], 64); e != api.ErrSearch || len(p) != 0 {
			t.Error(text, p, e)
		}
	}
}

// crowdedOf has start's productions as they are told: by P the word of twelve c has 4096 trees, by R one more.
func crowdedOf(t *testing.T, start, more string) api.Grammar {
	t.Helper()
	return readOf(t, "%term b c d S : "+start+" ; P : C C C C C C C C C C C C ; C : D | E ; D : c ; E : c ; R : c c c c c c c c c c c c ; "+more)
}

// P21.2: MaxTrees trees ahead are not too many, one more is: of the word itself, and of words ahead of it.
func TestCrowded(t *testing.T) {
	const empty, twelve = " Q : X c c c c c c c c c c c c ; X : ;", "c c c c c c c c c c c c "
	const forks = " F : G | H ; G : d ; H : d ;"
	low := " F : G | H ; G : b ; H : b ;"
	for _, c := range []struct {
		start, more string
		want        api.Errno
	}{
		{"P | Q", empty, api.OK},                                                 // 4096 ahead in the word
		{"P | R | Q", empty, api.ErrSearch},                                      // 4097
		{"P | Q | R", empty, api.OK},                                             // one more, but behind
		{"Q | P | R", empty, api.OK},                                             // none ahead
		{"P | Q", " Q : X c c c c c c c c c c c c c ; X : ;", api.OK},            // 4096 in a word ahead of one of the two
		{"P | R | Q", " Q : X c c c c c c c c c c c c c ; X : ;", api.ErrSearch}, // 4097
		{"P | Q", " Q : " + twelve + "F ;" + forks, api.OK},
		{"P | R | Q", " Q : " + twelve + "F ;" + forks, api.ErrSearch},
		{"P | R | Q", " Q : F " + twelve + ";" + forks, api.ErrSearch},
		{"P | R | Q", " Q : c c c F ;" + forks, api.OK},                        // a word that is shorter
		{"P | R | Q", " Q : c c c c c c c c c c c F ;" + low, api.OK},          // as long, but less
		{"P | R | Q", " Q : c c c c c c c c c c c F ;" + forks, api.ErrSearch}, // as long, and greater
		{"P | R | Q", " Q : F c c c c c c c c c c c ;" + low, api.OK},          // less from its first letter on
	} {
		g := crowdedOf(t, c.start, c.more)
		asked := false
		for _, x := range conflictsOf(g) {
			// of the things one is in X's production, or both in F's: none in C's
			names := ""
			for _, p := range x.Reduce {
				names += g.Nons[g.Prods[p].Left]
			}
			if names != "X" && names != "GH" {
				continue
			}
			asked = true
			l, e := example.Explain(g, x, 64)
			if e != c.want || e == api.OK && len(l) != 2 || e != api.OK && len(l) != 0 {
				t.Error(c.start, c.more, x, l, e, "want", c.want)
			}
			for _, p := range l {
				if !proves(g, x, p) {
					t.Error("P21.6:", c.start, c.more, x, p)
				}
			}
		}
		if !asked {
			t.Error("no conflict:", c.start, c.more)
		}
	}
}

// proves tells whether a proof's tree is right, its word the tree's, and the move the first that is such.
func proves(g api.Grammar, c api.Conflict, p example.Proof) bool {
	if e, _ := trees.Check(g, p.Tree); e != api.OK {
		return false
	}
	if root, _ := trees.Root(g, p.Tree); root != non(g.Start) || !slices.Equal(kinds(p.Tree), p.Word) {
		return false
	}
	for _, tok := range trees.Yield(p.Tree) {
		if tok.Text != "" {
			return false
		}
	}
	return p.Move == slices.IndexFunc(must(example.Moves(g, p.Tree)), func(m example.Move) bool {
		next := len(g.Terms)
		if m.At < len(p.Word) {
			next = p.Word[m.At]
		}
		return m.State == c.State && m.Act == p.Act && next == c.Look
	})
}

// P21.2: words with very many trees ahead of those that the conflict needs.
func TestVeryCrowded(t *testing.T) {
	for text, want := range map[string]api.Errno{
		"%term a x S : A | a a a a a a a a a a a B ; A : A A | a ; B : C | D ; C : x ; D : x ;": api.ErrSearch, // a^10 has 4862
		"%term a x S : A | a a a a a a a a B ; A : A A | a ; B : C | D ; C : x ; D : x ;":       api.OK,        // a^9 has 1430
		"%term x a S : A | a a a a a a a a a B ; A : A A | a ; B : C | D ; C : x ; D : x ;":     api.OK,        // a^9 x is less than a^10
		"%term a x S : A | a a a a a a a a a B ; A : A A | a ; B : C | D ; C : x ; D : x ;":     api.ErrSearch, // and here greater
	} {
		g := readOf(t, text)
		asked := false
		for _, c := range conflictsOf(g) {
			if c.Shift >= 0 {
				continue // of A's own
			}
			asked = true
			l, e := example.Explain(g, c, 64)
			if e != want {
				t.Error(text, c, l, e, "want", want)
			}
		}
		if !asked {
			t.Error("no conflict:", text)
		}
	}
}

// P21.2: five rows of a, twenty one in all, can be parted in 4845 ways, though a parser ends but five of them: at all other places it goes on.
func TestManyShifts(t *testing.T) {
	for n, want := range map[int]api.Errno{20: api.OK, 21: api.ErrSearch} {
		g := grammarOf(3, 6, 0, prod(0, slices.Repeat([]api.Sym{non(1)}, 5)...), prod(0, non(2)), prod(1, term(0), non(1)), prod(1, term(0)))
		g.Prods = append(g.Prods,
			prod(2, append(slices.Repeat([]api.Sym{term(1)}, 10), non(3))...), prod(3, append(slices.Repeat([]api.Sym{term(1)}, n-11), non(4))...), prod(3, append(slices.Repeat([]api.Sym{term(1)}, n-11), non(5))...),
			prod(4, term(2)), prod(5, term(2)))
		asked := 0
		for _, c := range conflictsOf(g) {
			if c.Shift >= 0 {
				continue
			}
			asked++
			l, e := example.Explain(g, c, 64)
			if e != want || e == api.OK && (len(l) != 2 || len(l[0].Word) != n || !proves(g, c, l[0]) || !proves(g, c, l[1])) {
				t.Error(n, c, l, e)
			}
		}
		if asked != 1 {
			t.Error(n, asked)
		}
	}
}
