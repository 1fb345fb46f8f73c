package example_test

import (
	"math/rand"
	"slices"
	"testing"

	"gantry/api"
	"gantry/example"
	"gantry/grammar"
	"gantry/lrzero"
	"gantry/pgen"
	"gantry/sentence"
	"gantry/trees"
	"gantry/trim"
)

func seenAll(t *testing.T, seen map[string]int, least int, names ...string) {
	t.Helper()
	for _, name := range names {
		if seen[name] < least {
			t.Error("too seldom:", name, seen)
		}
	}
}

// heldOfExplain holds the proofs of a conflict, at each length up to one, against those that are found word by word.
func heldOfExplain(t *testing.T, m *model, c api.Conflict, length int, seen map[string]int) {
	t.Helper()
	g, crowded := m.grammar, m.crowded(length)
	want, found := m.proofs(c, length)
	longest := 0
	for n, p := range want {
		longest = max(longest, len(p.Word))
		if !found[n] {
			longest = length + 1
			break
		}
		if crowded != nil && compareWords(crowded, p.Word) < 0 {
			longest = length + 1
			seen["crowded"]++
			break
		}
	}
	for n := range length + 1 {
		got, e := example.Explain(g, c, n)
		if n < longest {
			if e != api.ErrSearch || len(got) != 0 {
				t.Fatal(g, c, n, got, e)
			}
			seen["searched"]++
			continue
		}
		if e != api.OK || !slices.EqualFunc(got, want, sameProof) {
			t.Fatal(g, c, n, got, e, "want", want)
		}
		for _, p := range got {
			if !proves(g, c, p) {
				t.Fatal("P21.6:", g, c, p)
			}
		}
		seen["proved"]++
	}
}

// heldOfWords holds Ambiguous, at each length up to one, against the words in their order.
func heldOfWords(t *testing.T, m *model, length int, seen map[string]int) {
	t.Helper()
	g := m.grammar
	word, two, want := m.ambiguous(length)
	for n := range length + 1 {
		w, l, e := example.Ambiguous(g, n)
		if want == api.ErrNone || n < len(word) {
			if e != api.ErrNone || len(w)+len(l) != 0 {
				t.Fatal(g, n, w, l, e)
			}
			seen["no word"]++
			continue
		}
		if e != api.OK || !slices.Equal(w, word) || !slices.EqualFunc(l, two, trees.Same) {
			t.Fatal(g, n, w, l, e, "want", word, two)
		}
		seen["a word"]++
	}
}

// P21.2, P21.3: every small grammar, and greater ones, held against what is found by trying all words and trees.
func TestModel(t *testing.T) {
	seen := map[string]int{}
	ask := func(g api.Grammar, length int) {
		if len(must(trim.Circular(g))) > 0 {
			if _, _, e := example.Ambiguous(g, length); e != api.ErrCycle {
				t.Fatal(g, e)
			}
			if _, e := example.Explain(g, api.Conflict{}, length); e != api.ErrCycle {
				t.Fatal(g, e)
			}
			seen["circular"]++
			return
		}
		m := modelOf(g)
		for _, c := range conflictsOf(g) {
			heldOfExplain(t, m, c, length, seen)
		}
		heldOfWords(t, m, length, seen)
	}
	eachSmall(func(g api.Grammar) { ask(g, 4) })
	r := rand.New(rand.NewSource(2121))
	for range 2000 {
		ask(anyFlat(r, 3, 3, 6, 3), 6)
	}
	for range 500 {
		ask(anyFlat(r, 2, 4, 8, 4), 5)
	}
	for range 300 {
		ask(anyFlat(r, 2, 1, 4, 5), 8)
	}
	seenAll(t, seen, 1000, "circular", "proved", "searched", "a word", "no word")
}

// P21.2: grammars of which words have more than MaxTrees trees, too: a^10 has 4862 by A alone.
func TestCrowdedModel(t *testing.T) {
	seen := map[string]int{}
	r := rand.New(rand.NewSource(2122))
	for range 20 {
		g := readOf(t, "%term a b c S : A | B ; A : A A | a ; B : a a a a a a a a a c ;")
		for range 1 + r.Intn(2) {
			p := prod(1+r.Intn(2), term(1+r.Intn(2)))
			for range 8 + r.Intn(3) {
				p.Right = append(p.Right, pick(r, []api.Sym{term(0), term(0), term(0), non(1)}))
			}
			p.Right = append(p.Right, pick(r, symbolsOf(g)[:3]))
			g.Prods = append(g.Prods, p, prod(2, p.Right[1:]...))
		}
		if e, _ := grammar.Check(g); e != api.OK || len(must(trim.Circular(g))) > 0 {
			continue
		}
		m := modelOf(g)
		for _, c := range conflictsOf(g) {
			heldOfExplain(t, m, c, 11, seen)
		}
	}
	seenAll(t, seen, 20, "proved", "crowded")
}

// P21.1, P21.4: moves held against those that are worked out from all that lies on the stack; Follow of them is the tree.
func TestThereAndBack(t *testing.T) {
	r := rand.New(rand.NewSource(2140))
	asked := 0
	for range 6000 {
		g := anyGrammar(r, 3, 3, 6, 4)
		y, made := anyTree(r, g, non(g.Start), 2+r.Intn(7))
		if !made {
			continue
		}
		asked++
		l, e := example.Moves(g, y)
		if want := modelOf(g).moves(y); e != api.OK || !slices.Equal(l, want) {
			t.Fatal(g, y, l, e, "want", want)
		}
		if x, e, at := example.Follow(g, l, trees.Yield(y)); e != api.OK || at != 0 || !trees.Same(x, y) {
			t.Fatal(g, y, x, e, at)
		}
	}
	if asked < 3000 {
		t.Error("too seldom:", asked)
	}
}

// parting is the first place at which moves are unlike.
func parting(a, b []example.Move) int {
	at := 0
	for at < min(len(a), len(b)) && a[at] == b[at] {
		at++
	}
	return at
}

// P21.4: moves of unlike trees of one word part: in the same state, at the same place, with another action.
func TestPart(t *testing.T) {
	r := rand.New(rand.NewSource(2141))
	asked := 0
	for range 3000 {
		g := anyFlat(r, 2, 3, 6, 3)
		eachShort(g, 5, func(w []int) {
			l := must(sentence.Trees(g, g.Start, w, 5))
			for n, y := range l {
				for _, x := range l[:n] {
					a, b := must(example.Moves(g, x)), must(example.Moves(g, y))
					at := parting(a, b)
					if at == min(len(a), len(b)) || a[at].State != b[at].State || a[at].At != b[at].At {
						t.Fatal(g, x, y, a, b)
					}
					asked++
				}
			}
		})
	}
	if asked < 3000 {
		t.Error("too seldom:", asked)
	}
}

// eachShort goes over start's words of at most so many terminals.
func eachShort(g api.Grammar, length int, do func(w []int)) {
	for n := range length + 1 {
		for _, w := range must(sentence.Words(g, g.Start, n, 20)) {
			do(w)
		}
	}
}

// changed is moves with one of them changed, gone, twice, or in another's place; or tokens so.
func changed(r *rand.Rand, g api.Grammar, l []example.Move, toks []api.Token) ([]example.Move, []api.Token) {
	l, toks = slices.Clone(l), slices.Clone(toks)
	at := r.Intn(len(l))
	switch r.Intn(9) {
	case 0:
		l[at].State += r.Intn(3) - 1
	case 1:
		l[at].At += r.Intn(3) - 1
	case 2:
		l[at].Act.Arg = r.Intn(12) - 2
	case 3:
		l[at].Act.Kind = api.ActKind(r.Intn(6) - 1)
	case 4:
		l = slices.Delete(l, at, at+1)
	case 5:
		l = slices.Insert(l, at, l[r.Intn(len(l))])
	case 6:
		other := r.Intn(len(l))
		l[at], l[other] = l[other], l[at]
	case 7:
		toks = append(toks, api.Token{Kind: r.Intn(len(g.Terms) + 1)})
	default:
		if len(toks) > 0 {
			toks[r.Intn(len(toks))].Kind = r.Intn(len(g.Terms)+2) - 1
			toks = toks[:len(toks)-r.Intn(2)]
		}
	}
	return l, toks
}

// P21.1: moves that may be wrong, held against a model.
func TestFollowModel(t *testing.T) {
	r := rand.New(rand.NewSource(2142))
	seen := map[api.Errno]int{}
	for range 4000 {
		g := anyGrammar(r, 3, 3, 6, 4)
		y, made := anyTree(r, g, non(g.Start), 2+r.Intn(5))
		if !made {
			continue
		}
		a := must(lrzero.Build(g))
		for range 20 {
			l, toks := must(example.Moves(g, y)), trees.Yield(y)
			for range 1 + r.Intn(3) {
				if len(l) > 0 {
					l, toks = changed(r, g, l, toks)
				}
			}
			x, e, at := example.Follow(g, l, toks)
			want, f, place := modelFollow(a, g, l, toks)
			if e != f || at != place || !trees.Same(x, want) {
				t.Fatal(g, l, toks, x, e, at, "want", want, f, place)
			}
			seen[e]++
		}
	}
	for _, e := range []api.Errno{api.OK, api.ErrStep, api.ErrLeaf, api.ErrShort, api.ErrCount} {
		if seen[e] < 200 {
			t.Error("too seldom:", e, seen)
		}
	}
}

// P21.5: of what Compile takes there is nothing to explain, and no word of any length is ambiguous; an ambiguous word's grammar is not taken, and its trees part at a conflict.
func TestCompile(t *testing.T) {
	r := rand.New(rand.NewSource(2150))
	seen := map[string]int{}
	for range 6000 {
		g, e := trim.Wells(anyGrammar(r, 3, 3, 6, 3))
		if e != api.OK {
			continue
		}
		_, _, compiled, _ := pgen.Compile(must(grammar.Encode(g)))
		l := conflictsOf(g)
		if (compiled == api.OK) != (len(l) == 0) {
			t.Fatal(g, compiled, l)
		}
		if compiled == api.OK {
			if w, two, e := example.Ambiguous(g, 64); e != api.ErrNone || len(w)+len(two) != 0 {
				t.Fatal(g, w, two, e)
			}
			if p, e := example.Explain(g, api.Conflict{Shift: -1, Reduce: []int{0, 1}}, 64); e != api.ErrNone || len(p) != 0 {
				t.Fatal(g, p, e)
			}
			seen["taken"]++
			continue
		}
		w, two, e := example.Ambiguous(g, 5)
		if e != api.OK {
			seen["no word"]++
			continue
		}
		a, b := must(example.Moves(g, two[0])), must(example.Moves(g, two[1]))
		at := parting(a, b)
		look := len(g.Terms)
		if a[at].At < len(w) {
			look = w[a[at].At]
		}
		if !slices.ContainsFunc(l, func(c api.Conflict) bool {
			things := modelThings(c)
			return c.State == a[at].State && c.Look == look && slices.Contains(things, a[at].Act) && slices.Contains(things, b[at].Act)
		}) {
			t.Fatal(g, w, two, l)
		}
		seen["a word"]++
	}
	seenAll(t, seen, 100, "taken", "no word", "a word")
}

// P1 of DOC.md: any grammar, any conflict, any moves, any tree: it ends, and does not panic.
func TestAny(t *testing.T) {
	r := rand.New(rand.NewSource(2101))
	for range 20000 {
		g := anyGrammar(r, 2, 2, 4, 3)
		switch r.Intn(4) {
		case 0:
			g.Start = r.Intn(5) - 2
		case 1:
			g.Prods[0].Left = r.Intn(5) - 2
		case 2:
			g.Levels = []api.Level{{Assoc: api.Assoc(r.Intn(5)), Terms: []int{r.Intn(4) - 1}}}
		}
		act := api.Action{Kind: api.ActKind(r.Intn(7) - 1), Arg: r.Intn(9) - 2}
		y := node(r.Intn(5)-2, leaf(r.Intn(4)-1, "x"), node(r.Intn(5)-2))
		example.Moves(g, y)
		example.Follow(g, []example.Move{move(r.Intn(3)-1, r.Intn(3)-1, act), move(r.Intn(3)-1, r.Intn(3)-1, act)}, tokens(r.Intn(4)-1))
		example.Explain(g, api.Conflict{State: r.Intn(6) - 1, Look: r.Intn(4) - 1, Shift: r.Intn(6) - 1, Reduce: []int{r.Intn(4) - 1, r.Intn(4) - 1}}, r.Intn(9)-1)
		example.Ambiguous(g, r.Intn(9)-1)
	}
}

// FuzzGrammars looks for a grammar and a length of which the answers are not those of the model.
func FuzzGrammars(f *testing.F) {
	f.Add(int64(1), 4)
	f.Fuzz(func(t *testing.T, seed int64, length int) {
		g := anyFlat(rand.New(rand.NewSource(seed)), 3, 3, 7, 4)
		length = min(max(length, 0), 5)
		m := modelOf(g)
		seen := map[string]int{}
		for _, c := range conflictsOf(g) {
			heldOfExplain(t, m, c, length, seen)
		}
		heldOfWords(t, m, length, seen)
	})
}
