package validate_test

import (
	"math/rand"
	"slices"
	"testing"

	"gantry/api"
	"gantry/canon"
	"gantry/cert"
	"gantry/first"
	"gantry/notation"
	"gantry/sentence"
	"gantry/table"
	"gantry/trees"
	"gantry/validate"
)

// patience is how many steps a run is given that may never end.
const patience = 1500

func isOK(e api.Errno, _ int) bool { return e == api.OK }

// heldOfRun runs one text, and holds it against what is promised of what Sound, Complete and Ends have taken.
func heldOfRun(t *testing.T, g api.Grammar, b api.Bundle, kinds []int, complete, ends bool) string {
	t.Helper()
	w := textOf(kinds)
	o := runOf(g, b.Table, w, patience)
	switch o.how {
	case stuck:
		t.Fatalf("P18.6: stuck: %v, %v over %v", g, b, kinds)
	case accepted:
		e, _ := trees.Check(g, o.tree)
		if root, _ := trees.Root(g, o.tree); e != api.OK || root != non(g.Start) || !slices.Equal(trees.Yield(o.tree), w) {
			t.Fatalf("P18.6: no tree: %v, %v over %v: %v", g, b, kinds, o.tree)
		}
	case endless:
		if ends {
			t.Fatalf("P18.7: it does not end: %v, %v over %v", g, b, kinds)
		}
	}
	if n := len(w); ends && o.highest > n+(n+1)*(len(b.Table.Rows)-1) {
		t.Fatalf("P18.7: %d entries: %v, %v over %v", o.highest, g, b, kinds)
	}
	if o.how != endless && o.steps != o.pops+o.left+1 {
		t.Fatalf("P18.7: %d steps, %d pops, %d left: %v, %v over %v", o.steps, o.pops, o.left, g, b, kinds)
	}
	if l := must(sentence.Trees(g, g.Start, kinds, 2)); complete && len(l) > 0 {
		if o.how != accepted || len(l) > 1 || !trees.Same(bare(o.tree), l[0]) {
			t.Fatalf("P18.8: %s: %v, %v over %v, of which are %v", o.how, g, b, kinds, l)
		}
	} else if o.how == accepted && len(l) == 0 {
		t.Fatalf("P18.6: it has no tree: %v, %v over %v", g, b, kinds)
	}
	return o.how
}

// heldOfRuns runs all short texts, if Sound takes a bundle; kinds that are no terminal's are among them.
func heldOfRuns(t *testing.T, g api.Grammar, b api.Bundle, length int, seen map[string]int) {
	t.Helper()
	if !isOK(validate.Sound(g, b)) {
		return
	}
	complete, ends := isOK(validate.Complete(g, b)), isOK(validate.Ends(g, b))
	how := map[string]int{}
	eachText(append(kindsOf(g), len(g.Terms)), length, func(kinds []int) {
		how[heldOfRun(t, g, b, kinds, complete, ends)]++
	})
	heldOfRun(t, g, b, []int{-1}, complete, ends)
	name := "sound"
	if complete {
		name += " complete"
	}
	if ends {
		name += " ends"
	}
	seen[name]++
	for word := range how {
		seen[name+": "+word]++
	}
}

// put lets an edge leave a state of a table.
func put(y api.Table, z api.Edge) {
	if row := y.Rows[z.From]; z.Sym.Kind == api.SymTerm {
		row.Acts[z.Sym.N] = to(z.To)
	} else {
		row.Gotos[z.Sym.N] = z.To
	}
}

// anyWeb is a table of edges alone, whose states have one symbol each.
func anyWeb(r *rand.Rand, g api.Grammar, rows int) api.Table {
	y := idle(g, rows).Table
	into := map[api.Sym][]int{}
	for n := 1; n < rows; n++ {
		s := pick(r, symbolsOf(g))
		into[s] = append(into[s], n)
	}
	for from := range rows {
		for _, s := range symbolsOf(g) {
			if len(into[s]) > 0 && r.Intn(3) > 0 {
				put(y, edge(from, s, pick(r, into[s])))
			}
		}
	}
	return y
}

// mayDo are the reductions that what lies below a state allows, and acceptance, if it may be.
func mayDo(g api.Grammar, b api.Bundle, state int) []api.Action {
	var l []api.Action
	for p := range g.Prods {
		if modelReduction(g, b, state, p) == api.OK {
			l = append(l, by(p))
		}
	}
	if b.Cert.Incoming[state] == non(g.Start) && hasAll(b.Cert.PastStates[state][0], []int{0}) {
		l = append(l, accept)
	}
	return l
}

// anySound is a table of nobody, with reductions wherever they may be, under whatever lookahead; false, if there is no certificate of it.
func anySound(r *rand.Rand, g api.Grammar, rows int) (api.Bundle, bool) {
	y := anyWeb(r, g, rows)
	b, ok := best(g, y)
	if !ok {
		return b, false
	}
	for n, row := range y.Rows {
		l := mayDo(g, b, n)
		for look := range row.Acts {
			if len(l) == 0 || row.Acts[look] != fault || r.Intn(5) == 0 {
				continue
			}
			if a := pick(r, l); a != accept || look == len(g.Terms) {
				row.Acts[look] = a
			}
		}
		if a := pick(r, append(l, fault)); a.Kind == api.ActReduce && !slices.ContainsFunc(row.Acts, func(a api.Action) bool { return a.Kind == api.ActShift }) && r.Intn(3) == 0 {
			y.Rows[n] = blind(a.Arg, len(row.Acts), row.Gotos...)
		}
	}
	return best(g, y)
}

// P18.6 to P18.8: tables of nobody, that Sound takes.
func TestRunsOfAnySound(t *testing.T) {
	r := rand.New(rand.NewSource(186))
	seen := map[string]int{}
	for range 12000 {
		g := anyWell(r, 2, 3, 5, 3)
		if b, ok := anySound(r, g, 2+r.Intn(7)); ok {
			if !isOK(validate.Sound(g, b)) {
				t.Fatal("it is sound:", g, b)
			}
			heldOfRuns(t, g, b, 3, seen)
		}
	}
	for _, name := range []string{"sound: accepted", "sound: refused", "sound: endless", "sound ends: accepted", "sound ends: refused"} {
		if seen[name] < 50 {
			t.Error("too seldom:", name, seen)
		}
	}
}

// P18.6 to P18.8: bundles with some things changed, that Sound takes still.
func TestRunsOfTurned(t *testing.T) {
	r := rand.New(rand.NewSource(187))
	seen := map[string]int{}
	for range 1500 {
		g := anyWell(r, 2, 3, 6, 3)
		b, ok := anyBundle(r, g, 40)
		if !ok {
			continue
		}
		heldOfRuns(t, g, b, 5, seen)
		for range 4 {
			heldOfRuns(t, g, turned(r, g, b, false), 4, seen)
		}
	}
	for _, name := range []string{"sound ends: accepted", "sound ends: refused", "sound complete ends: accepted", "sound complete ends: refused"} {
		if seen[name] < 100 {
			t.Error("too seldom:", name, seen)
		}
	}
}

// longer is S → A x, S → y z, A → nothing.
func longer() api.Grammar {
	return grammarOf(3, 2, 0, prod(0, non(1), term(0)), prod(0, term(1), term(2)), prod(1))
}

// circles pushes A for ever under z, which no text begins with.
func circles() api.Table {
	return api.Table{Rows: []api.Row{
		looks(acts(by(2), to(5), by(2), fault), 3, 1),
		looks(acts(to(2), fault, by(2), fault), 4, 1),
		looks(acts(fault, fault, fault, by(0)), -1, -1),
		looks(acts(fault, fault, fault, accept), -1, -1),
		looks(make([]api.Action, 4), -1, -1),
		looks(acts(fault, fault, to(6), fault), -1, -1),
		looks(acts(fault, fault, fault, by(1)), -1, -1),
	}}
}

// nestBest is nest's table with some changes, and the best certificate of it, to which nothing but the table's claims is false.
func nestBest(t *testing.T, do ...change) api.Bundle {
	t.Helper()
	b := nestBundle()
	for _, do := range do {
		do(&b)
	}
	b, ok := best(nest(), b.Table)
	if !ok {
		t.Fatal("no certificate")
	}
	return b
}

// early is S → a B, and B gives these terminals.
func early(l ...api.Sym) api.Grammar {
	return grammarOf(1+len(l), 2, 0, prod(0, term(0), non(1)), prod(1, l...))
}

// shiftedEarly is a bundle of early in which B's first terminal, 1, may be shifted at once: nothing is done with the B that comes of it. With it the state behind a.
func shiftedEarly(t *testing.T, l ...api.Sym) (api.Bundle, int) {
	t.Helper()
	y := merged(early(l...), false).Table
	inside := y.Rows[0].Acts[0].Arg
	y.Rows[0].Acts[1] = y.Rows[inside].Acts[1]
	b, ok := best(early(l...), y)
	if !ok {
		t.Fatal("no certificate")
	}
	return b, inside
}

// P18.6 to P18.8 and G7 of DOC.md: what each check refuses misbehaves, be all else as it must.
func TestNoCheckIsTooMuch(t *testing.T) {
	lie := func(b api.Bundle, do ...change) api.Bundle {
		b = deep(b)
		for _, do := range do {
			do(&b)
		}
		return b
	}
	loops, ok := best(longer(), circles())
	if !ok {
		t.Fatal("no certificate")
	}
	lost, inside := shiftedEarly(t, term(1))
	leaf := lost.Table.Rows[0].Acts[1].Arg
	lostDeeper, insideDeeper := shiftedEarly(t, term(1), term(2))
	mid := lostDeeper.Table.Rows[0].Acts[1].Arg
	end := lostDeeper.Table.Rows[mid].Acts[2].Arg
	for _, c := range []struct {
		about  string
		g      api.Grammar
		b      api.Bundle
		want   answer
		text   []int
		how    string
		others int // the call of held that refuses: 1 Sound, 2 Complete, 3 Ends; the other two take it
	}{
		{"as it is", nest(), nestBest(t), fine, []int{0, 2, 1}, accepted, 0},
		{"a goto that is missing", early(term(1)), lost, answer{api.ErrGoto, leaf}, []int{1}, stuck, 1},
		{"a past state that is not told", early(term(1)), lie(lost, setPast(leaf, []int{inside})), answer{api.ErrPast, 0}, []int{1}, stuck, 1},
		{"a goto that is missing far below", early(term(1), term(2)), lostDeeper, answer{api.ErrGoto, end}, []int{1, 2}, stuck, 1},
		{"a past state far below that is not told", early(term(1), term(2)), lie(lostDeeper, setPast(end, []int{mid}, []int{insideDeeper})), answer{api.ErrPast, mid}, []int{1, 2}, stuck, 1},
		{"an acceptance inside", nest(), nestBest(t, setAct(4, 3, accept)), answer{api.ErrAccept, 4}, []int{0, 2}, stuck, 1},
		{"an acceptance of what is not start", nest(), nestBest(t, setAct(1, 3, accept)), answer{api.ErrAccept, 1}, []int{0}, stuck, 1},
		{"an acceptance of nothing", nest(), nestBest(t, setAct(0, 3, accept)), answer{api.ErrAccept, 0}, nil, stuck, 1},
		{"a reduction of what is not there", nest(), nestBest(t, setAct(4, 3, by(0))), answer{api.ErrReduce, 4}, []int{0, 2}, stuck, 1},
		{"it is told to be there", nest(), lie(nestBest(t, setAct(4, 3, by(1))), setIn(4, x)), answer{api.ErrIncoming, 1}, []int{0, 2}, stuck, 1},
		{"too little lies below", nest(), nestBest(t, setAct(3, 1, to(5))), answer{api.ErrReduce, 5}, []int{2, 1}, stuck, 1},
		{"more is told to lie there", nest(), lie(nestBest(t, setAct(3, 1, to(5))), setSyms(5, s, opens), setPast(5, []int{3, 4}, []int{0, 1}, []int{0, 1})), answer{api.ErrPast, 3}, []int{2, 1}, stuck, 1},
		{"a loop over empty ones", longer(), loops, answer{api.ErrLoop, 1}, []int{2}, endless, 3},
		{"no reduction", nest(), nestBest(t, setAct(2, 1, fault)), answer{api.ErrAction, 2}, []int{0, 2, 1}, refused, 2},
		{"no shift", nest(), nestBest(t, setAct(0, 2, fault)), answer{api.ErrAction, 0}, []int{2}, refused, 2},
		{"no acceptance", nest(), nestBest(t, setAct(3, 3, fault)), answer{api.ErrAction, 3}, []int{2}, refused, 2},
		{"no lookahead", nest(), lie(nestBest(t, setAct(2, 1, fault)), setItems(2, item(1, 1, 3))), answer{api.ErrClosure, 1}, []int{0, 2, 1}, refused, 2},
		{"no item", nest(), lie(nestBest(t, setAct(0, 2, fault)), setItems(0, item(-1, 0, 3), item(0, 0, 3))), answer{api.ErrClosure, 0}, []int{2}, refused, 2},
		{"no lookahead of the start", nest(), lie(nestBest(t, setAct(3, 3, fault)), setItems(0, item(-1, 0), item(0, 0, 3), item(1, 0, 3)), setItems(3, item(-1, 1))), answer{api.ErrInitial, 0}, []int{2}, refused, 2},
	} {
		got := held(t, c.g, c.b)
		for n := 1; n <= 3; n++ {
			if (got[n] == fine) != (n != c.others) {
				t.Error(c.about, got)
			}
		}
		if got[4] != c.want {
			t.Error(c.about, got)
		}
		if o := runOf(c.g, c.b.Table, textOf(c.text), patience); o.how != c.how {
			t.Error(c.about, o.how)
		}
	}
}

// texts are grammars of people.
func texts() []string {
	return []string{
		"E : E '+' T | T ; T : T '*' F | F ; F : '(' E ')' | 'n' ;",
		"S : S 'a' | %empty ;",
		"S : 'a' S | %empty ;",
		"S : A B 'c' ; A : 'a' | %empty ; B : 'b' | %empty ;",
		"S : L '=' R | R ; L : '*' R | 'x' ; R : L ;",
		"%term s n t f u V : '{' M '}' | '[' L ']' | s | n | t | f | u ; M : N | %empty ; N : N ',' P | P ; P : s ':' V ; L : K | %empty ; K : K ',' V | V ;",
		"P : B ; B : '{' D T '}' ; D : D 'int' 'id' ';' | %empty ; T : T C | %empty ; C : 'id' '=' E ';' | 'while' '(' E ')' C | B | 'do' C 'while' '(' E ')' ';' ; E : E '<' A | A ; A : A '+' M | M ; M : M '*' U | U ; U : '-' U | 'id' | '(' E ')' ;",
		"S : A S B | 'c' ; A : 'a' ; B : 'b' | %empty ;",
		"S : X Y Z ; X : Y Z | 'x' ; Y : Z | 'y' ; Z : %empty | 'z' ;",
	}
}

// heldOfGood holds what the chapter says of a well-formed grammar's bundles; true, if its merged automaton has no conflict.
func heldOfGood(t *testing.T, g api.Grammar) bool {
	t.Helper()
	a, e := canon.Merged(g)
	if e != api.OK {
		return false
	}
	conflicts := must(canon.Conflicts(g, a))
	for _, defaults := range []bool{false, true} {
		b := built(g, a, defaults)
		v, e, at := validate.Validate(g, b)
		if (e == api.OK) != (len(conflicts) == 0) || v.Made() != (e == api.OK) {
			t.Fatalf("P18.9: %v, %v: %v at %d, conflicts %v", g, b, e, at, conflicts)
		}
		if e != api.OK && e != api.ErrAction || !isOK(validate.Sound(g, b)) {
			t.Fatalf("P18.9: %v, %v: %v at %d", g, b, e, at)
		}
	}
	return len(conflicts) == 0
}

// P18.9: a good table passes; one with a conflict does not, however that is decided.
func TestGoodTables(t *testing.T) {
	seen := map[bool]int{}
	eachSmall(func(g api.Grammar) { seen[heldOfGood(t, g)]++ })
	r := rand.New(rand.NewSource(189))
	for range 4000 {
		seen[heldOfGood(t, anyWell(r, 4, 5, 10, 4))]++
	}
	if seen[true] < 1000 || seen[false] < 1000 {
		t.Error("too seldom:", seen)
	}
	for n, text := range texts() {
		g, e, at := notation.Parse(text)
		if e != api.OK {
			t.Fatal(text, e, at)
		}
		if good := heldOfGood(t, g); good != (n < len(texts())-2) {
			t.Error(text, good)
		}
	}
	runs := map[string]int{}
	for _, text := range texts()[:5] {
		g, _, _ := notation.Parse(text)
		heldOfRuns(t, g, merged(g, true), 5, runs)
	}
	if runs["sound complete ends: accepted"] != 5 {
		t.Error("runs:", runs)
	}
}

// P18.9 and G4 of DOC.md: if precedence dropped an action, nothing is taken.
func TestPrecedence(t *testing.T) {
	for _, text := range []string{
		"%left '+' %term n E : E '+' E | n ;",
		"%right '+' %term n E : E '+' E | n ;",
		"%nonassoc '+' %term n E : E '+' E | n ;",
		"%left '+' %left '*' %term n E : E '+' E | E '*' E | n ;",
	} {
		g, e, at := notation.Parse(text)
		if e != api.OK {
			t.Fatal(text, e, at)
		}
		if _, undecided, decided, _ := table.Build(g, must(canon.Merged(g))); len(undecided) > 0 || len(decided) == 0 {
			t.Error(text, undecided, decided)
		}
		for _, defaults := range []bool{false, true} {
			if got := held(t, g, merged(g, defaults)); got[1] != fine || got[4].e != api.ErrAction {
				t.Error(text, got)
			}
		}
	}
	g := levels()
	if got := held(t, g, merged(g, false)); got[4] != fine {
		t.Error("levels that decide nothing:", got)
	}
}

// P18.9: Knuth's automaton, whose states are more, passes wherever it has no conflict: grammars among them that are not LALR(1).
func TestKnuth(t *testing.T) {
	r := rand.New(rand.NewSource(1890))
	seen, beyond := 0, 0
	// S → a A d, S → b B d, S → a B e, S → b A e, A → c, B → c.
	cross := grammarOf(5, 3, 0, prod(0, term(0), non(1), term(3)), prod(0, term(1), non(2), term(3)), prod(0, term(0), non(2), term(4)), prod(0, term(1), non(1), term(4)), prod(1, term(2)), prod(2, term(2)))
	for n := range 3000 {
		g := cross
		if n > 0 {
			g = anyWell(r, 4, 4, 9, 4)
		}
		a, e := canon.Canonical(g)
		if e != api.OK || len(must(canon.Conflicts(g, a))) > 0 {
			continue
		}
		if got, e, at := validate.Validate(g, built(g, a, n%2 == 0)); e != api.OK || !got.Made() {
			t.Fatal(g, a, e, at)
		}
		seen++
		if !heldOfGood(t, g) {
			beyond++
		}
	}
	if seen < 300 || beyond < 1 {
		t.Error("too seldom:", seen, beyond)
	}
}

// growItems lets items have all lookaheads that are asked of them.
func growItems(g api.Grammar, b api.Bundle) {
	for again := true; again; {
		again = false
		add := func(l []api.Item, prod, dot int, look []int) {
			for n, i := range l {
				if i.Prod == prod && i.Dot == dot && !hasAll(look, i.Look) {
					l[n].Look, again = once(slices.Concat(i.Look, look)), true
				}
			}
		}
		for state, l := range b.Cert.Items {
			for _, i := range l {
				right := rightOf(g, i.Prod)
				if i.Dot == len(right) {
					continue
				}
				s := right[i.Dot]
				add(b.Cert.Items[modelTarget(b.Table.Rows[state], s)], i.Prod, i.Dot+1, i.Look)
				ahead := must(first.Of(g, b.Cert.Nullable, b.Cert.First, right[i.Dot+1:], i.Look))
				for p := range g.Prods {
					if s == non(g.Prods[p].Left) {
						add(l, p, 0, ahead)
					}
				}
			}
		}
	}
}

// growClaims lets nullable and first have all that is asked of them.
func growClaims(g api.Grammar, c api.Cert) {
	for again := true; again; {
		again = false
		for _, p := range g.Prods {
			if must(first.IsNullable(g, c.Nullable, p.Right)) && !c.Nullable[p.Left] {
				c.Nullable[p.Left], again = true, true
			}
			if l := must(first.Of(g, c.Nullable, c.First, p.Right, nil)); !hasAll(l, c.First[p.Left]) {
				c.First[p.Left], again = once(slices.Concat(c.First[p.Left], l)), true
			}
		}
	}
}

// growPast lets past states have all that is asked of them along the edges.
func growPast(g api.Grammar, b api.Bundle) {
	c := b.Cert
	for again := true; again; {
		again = false
		for _, y := range modelEdges(g, b.Table) {
			for at, l := range slices.Concat([][]int{{y.From}}, c.PastStates[y.From]) {
				if at < len(c.PastStates[y.To]) && !hasAll(l, c.PastStates[y.To][at]) {
					c.PastStates[y.To][at], again = once(slices.Concat(c.PastStates[y.To][at], l)), true
				}
			}
		}
	}
}

// cutPast shortens past symbols, and past states with them, till they agree along the edges.
func cutPast(g api.Grammar, b api.Bundle) {
	c := b.Cert
	for again := true; again; {
		again = false
		for _, y := range modelEdges(g, b.Table) {
			for l := &c.PastSyms[y.To]; !begins(modelBelow(c, y.From), *l); again = true {
				*l = (*l)[:len(*l)-1]
			}
		}
	}
	for state := 1; state < len(c.PastSyms); state++ {
		c.PastStates[state] = c.PastStates[state][:len(c.PastSyms[state])+1]
	}
}

// asked is how many past symbols of each state of a bundle that passes reductions ask for, its own and those of states behind it.
func asked(g api.Grammar, b api.Bundle) []int {
	all := make([]int, len(b.Table.Rows))
	for state, row := range b.Table.Rows {
		for p := range g.Prods {
			if modelReduces(row, p) {
				all[state] = max(all[state], len(g.Prods[p].Right)-1)
			}
		}
	}
	for range 16 {
		for _, y := range modelEdges(g, b.Table) {
			all[y.From] = max(all[y.From], all[y.To]-1)
		}
	}
	return all
}

// doAll lets the table do what complete items ask for; false, if two things are wanted.
func doAll(g api.Grammar, b api.Bundle) bool {
	for state, l := range b.Cert.Items {
		row := b.Table.Rows[state]
		for _, i := range l {
			if i.Dot < len(rightOf(g, i.Prod)) {
				continue
			}
			want := by(i.Prod)
			if i.Prod == -1 {
				want = accept
			}
			for _, look := range i.Look {
				switch {
				case row.Default != -1 && want != by(row.Default):
					return false
				case row.Default == -1 && row.Acts[look] == fault:
					row.Acts[look] = want
				case row.Default == -1 && row.Acts[look] != want:
					return false
				}
			}
		}
	}
	return true
}

// goesOn tells whether all reductions find what they take off, and a goto behind it, and acceptance is right.
func goesOn(g api.Grammar, b api.Bundle) bool {
	for state, row := range b.Table.Rows {
		for p := range g.Prods {
			if modelReduces(row, p) && modelReduction(g, b, state, p) != api.OK {
				return false
			}
		}
		if !modelAccepts(g, b, state) {
			return false
		}
	}
	return true
}

// claimMore is a bundle with more lookaheads of items, nullable, first or past states than one that passes, or with less past symbols, and all that follows; false, if its table can't do what that asks for.
func claimMore(r *rand.Rand, g api.Grammar, b api.Bundle, kind int) (api.Bundle, bool) {
	b = deep(b)
	c := b.Cert
	state, n := 1+r.Intn(len(c.Items)-1), r.Intn(len(g.Nons))
	switch kind {
	case 0:
		l := c.Items[pick(r, []int{0, state})]
		look := &l[r.Intn(len(l))].Look
		*look = once(append(*look, anyNumbers(r, len(g.Terms)+1, 4)...))
	case 1:
		c.Nullable[n] = true
	case 2:
		c.First[n] = once(append(c.First[n], r.Intn(len(g.Terms))))
	case 3:
		l := &c.PastStates[state][r.Intn(len(c.PastStates[state]))]
		*l = once(append(*l, r.Intn(len(c.Items))))
	case 4:
		for state, n := range asked(g, b) {
			l := &c.PastSyms[state]
			*l = (*l)[:n+r.Intn(len(*l)-n+1)]
		}
	}
	growClaims(g, c)
	growItems(g, b)
	cutPast(g, b)
	growPast(g, b)
	e, _ := modelEnds(g, b)
	return b, doAll(g, b) && goesOn(g, b) && e == api.OK
}

// P18.10: a bundle that passes does so with more claims, if all that follows is claimed, too, and done.
func TestClaimsMore(t *testing.T) {
	r := rand.New(rand.NewSource(1810))
	var taken, refusals, other [5]int
	for range 3000 {
		g := anyWell(r, 3, 4, 7, 4)
		b, ok := anyBundle(r, g, 40)
		if !ok || !isOK(validate.Complete(g, b)) {
			continue
		}
		for kind := range taken {
			more, ok := claimMore(r, g, b, kind)
			got := held(t, g, more)
			if ok != (got[4] == fine) {
				t.Fatalf("%d: %v, %v: %v", kind, g, more, got)
			}
			if !ok && kind == 4 {
				t.Fatalf("no reduction asks for it: %v, %v: %v", g, more, got)
			}
			if !ok {
				refusals[kind]++
				continue
			}
			taken[kind]++
			if !cert.Within(more.Cert, b.Cert) || !cert.Within(b.Cert, more.Cert) {
				other[kind]++
			}
		}
	}
	for kind := range taken {
		if other[kind] < 30 {
			t.Error("too seldom:", taken, refusals, other)
		}
	}
}
