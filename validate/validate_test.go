package validate_test

import (
	"math/rand"
	"reflect"
	"slices"
	"testing"

	"gantry/api"
	"gantry/canon"
	"gantry/grammar"
	"gantry/validate"
)

// nest is S → ( S ), S → x.
func nest() api.Grammar {
	return api.Grammar{Terms: []string{"'('", "')'", "x"}, Nons: []string{"S"}, Prods: []api.Prod{prod(0, term(0), non(0), term(1)), prod(0, term(2))}}
}

var opens, closes, x, s = term(0), term(1), term(2), non(0)

// nestBundle is the bundle of nest, written down.
func nestBundle() api.Bundle {
	return api.Bundle{
		Table: api.Table{Rows: []api.Row{
			looks(acts(to(1), fault, to(2), fault), 3),
			looks(acts(to(1), fault, to(2), fault), 4),
			looks(acts(fault, by(1), fault, by(1)), -1),
			looks(acts(fault, fault, fault, accept), -1),
			looks(acts(fault, to(5), fault, fault), -1),
			looks(acts(fault, by(0), fault, by(0)), -1),
		}},
		Cert: api.Cert{
			Nullable: []bool{false},
			First:    [][]int{{0, 2}},
			Items: [][]api.Item{
				list(item(-1, 0, 3), item(0, 0, 3), item(1, 0, 3)),
				list(item(0, 0, 1), item(0, 1, 1, 3), item(1, 0, 1)),
				list(item(1, 1, 1, 3)),
				list(item(-1, 1, 3)),
				list(item(0, 2, 1, 3)),
				list(item(0, 3, 1, 3)),
			},
			Incoming:   syms(api.Sym{}, opens, x, s, s, closes),
			PastSyms:   [][]api.Sym{nil, nil, nil, nil, {opens}, {s, opens}},
			PastStates: [][][]int{nil, {{0, 1}}, {{0, 1}}, {{0}}, {{1}, {0, 1}}, {{4}, {1}, {0, 1}}},
		},
	}
}

// answer is an error and its place.
type answer struct {
	e  api.Errno
	at int
}

var fine = answer{}

// held holds all five calls against the models, and answers what Shapes, Sound, Complete, Ends and Validate say.
func held(t *testing.T, g api.Grammar, b api.Bundle) [5]answer {
	t.Helper()
	var got, want [5]answer
	got[0].e, got[0].at = validate.Shapes(g, b)
	got[1].e, got[1].at = validate.Sound(g, b)
	got[2].e, got[2].at = validate.Complete(g, b)
	got[3].e, got[3].at = validate.Ends(g, b)
	v, e, at := validate.Validate(g, b)
	got[4] = answer{e, at}
	want[0].e, want[0].at = modelShapes(g, b)
	want[1].e, want[1].at = modelSound(g, b)
	want[2].e, want[2].at = modelComplete(g, b)
	want[3].e, want[3].at = modelEnds(g, b)
	want[4].e, want[4].at = modelValidate(g, b)
	if got != want {
		t.Fatalf("%v, %v: %v, want %v", g, b, got, want)
	}
	if v.Made() != (e == api.OK) || e != api.OK && v != nil {
		t.Fatalf("%v, %v: made %v beside %v", g, b, v.Made(), e)
	}
	if e == api.OK && (!sameGrammar(v.Grammar(), g) || !sameTable(v.Table(), b.Table)) {
		t.Fatalf("%v, %v: %v, %v", g, b, v.Grammar(), v.Table())
	}
	return got
}

func sameProd(a, b api.Prod) bool {
	return a.Left == b.Left && a.Prec == b.Prec && slices.Equal(a.Right, b.Right)
}

func sameLevel(a, b api.Level) bool { return a.Assoc == b.Assoc && slices.Equal(a.Terms, b.Terms) }

func sameGrammar(a, b api.Grammar) bool {
	return slices.Equal(a.Terms, b.Terms) && slices.Equal(a.Nons, b.Nons) && a.Start == b.Start &&
		slices.EqualFunc(a.Prods, b.Prods, sameProd) && slices.EqualFunc(a.Levels, b.Levels, sameLevel)
}

func sameRow(a, b api.Row) bool {
	return a.Default == b.Default && slices.Equal(a.Acts, b.Acts) && slices.Equal(a.Gotos, b.Gotos)
}

func sameTable(a, b api.Table) bool { return slices.EqualFunc(a.Rows, b.Rows, sameRow) }

// change makes a bundle another one.
type change func(b *api.Bundle)

func changes(l ...change) []change { return l }

func setAct(n, look int, a api.Action) change {
	return func(b *api.Bundle) { b.Table.Rows[n].Acts[look] = a }
}
func setGoto(n, non, to int) change      { return func(b *api.Bundle) { b.Table.Rows[n].Gotos[non] = to } }
func setRow(n int, row api.Row) change   { return func(b *api.Bundle) { b.Table.Rows[n] = row } }
func setNullable(n int, is bool) change  { return func(b *api.Bundle) { b.Cert.Nullable[n] = is } }
func setFirst(n int, l ...int) change    { return func(b *api.Bundle) { b.Cert.First[n] = l } }
func setIn(n int, s api.Sym) change      { return func(b *api.Bundle) { b.Cert.Incoming[n] = s } }
func setSyms(n int, l ...api.Sym) change { return func(b *api.Bundle) { b.Cert.PastSyms[n] = l } }
func setPast(n int, l ...[]int) change   { return func(b *api.Bundle) { b.Cert.PastStates[n] = l } }
func setItems(n int, l ...api.Item) change {
	return func(b *api.Bundle) { b.Cert.Items[n] = l }
}

// changed is what the calls answer of nest's bundle with some changes.
type changed struct {
	about                 string
	do                    []change
	sound, complete, ends answer
}

func heldOfChanges(t *testing.T, cases []changed) {
	t.Helper()
	for _, c := range cases {
		b := nestBundle()
		for _, do := range c.do {
			do(&b)
		}
		all := [5]answer{fine, c.sound, c.complete, c.ends}
		for n := 3; n > 0; n-- {
			if all[n] != fine {
				all[4] = all[n]
			}
		}
		if got := held(t, nest(), b); got != all {
			t.Errorf("%s: %v, want %v", c.about, got, all)
		}
	}
}

// P18.2 to P18.5: the chapter's examples.
func TestExamples(t *testing.T) {
	heldOfChanges(t, []changed{
		{"as it is", nil, fine, fine, fine},
		{"without the goto of 1 over S", changes(setGoto(1, 0, -1)), answer{api.ErrGoto, 2}, answer{api.ErrGoto, 1}, fine},
		{"5's PastSyms made empty", changes(setSyms(5), setPast(5, []int{4})), answer{api.ErrReduce, 5}, fine, fine},
		{"3's acceptance made one of 4", changes(setAct(3, 3, fault), setAct(4, 3, accept)), answer{api.ErrAccept, 4}, answer{api.ErrAction, 3}, fine},
		{"2's action under ) made an error", changes(setAct(2, 1, fault)), fine, answer{api.ErrAction, 2}, fine},
	})
	if b := merged(nest(), false); !reflect.DeepEqual(held(t, nest(), b), held(t, nest(), nestBundle())) || !sameTable(b.Table, nestBundle().Table) {
		t.Error("nest's bundle is another one:", b)
	}
	g := grammarOf(1, 1, 0, prod(0, s, s), prod(0, term(0)))
	if got := held(t, g, merged(g, false)); got[1] != fine || got[4].e != api.ErrAction {
		t.Error("S → S S, S → a:", got)
	}
}

// P18.2: edge by edge, what comes in and what lies below.
func TestEdges(t *testing.T) {
	incoming := func(at int) answer { return answer{api.ErrIncoming, at} }
	past := func(at int) answer { return answer{api.ErrPast, at} }
	full := []int{0, 1, 2, 3, 4, 5}
	heldOfChanges(t, []changed{
		{"a shift to state 0", changes(setAct(4, 0, to(0))), incoming(4), fine, fine},
		{"a goto to state 0", changes(setGoto(2, 0, 0)), incoming(2), fine, fine},
		{"another symbol into 1", changes(setIn(1, closes)), incoming(0), fine, fine},
		{"a nonterminal of the terminal's number", changes(setIn(1, s)), incoming(0), fine, fine},
		{"another symbol into 5", changes(setIn(5, x)), incoming(4), fine, fine},
		{"an edge over another symbol", changes(setAct(4, 2, to(5))), incoming(4), fine, fine},
		{"the first edge is told", changes(setIn(5, x), setIn(4, x)), incoming(1), fine, fine},
		{"past of 3, that comes from 0", changes(setSyms(3, opens), setPast(3, []int{0}, full)), past(0), fine, fine},
		{"past of 1, that comes from 0 and 1", changes(setSyms(1, opens), setPast(1, []int{0, 1}, []int{0, 1})), past(0), fine, fine},
		{"another symbol is past of 4", changes(setSyms(4, x)), past(1), fine, fine},
		{"another symbol is past of 5", changes(setSyms(5, s, x)), past(4), fine, fine},
		{"5 has a symbol more than 4", changes(setSyms(5, s, opens, opens), setPast(5, []int{4}, []int{1}, []int{0, 1}, full)), past(4), fine, fine},
		{"5 has a symbol that 4 has lost", changes(setSyms(4), setPast(4, []int{1})), past(4), fine, fine},
		{"0 is not below 1", changes(setPast(1, []int{1})), past(0), fine, fine},
		{"1 is not below itself", changes(setPast(1, []int{0})), past(1), fine, fine},
		{"nothing is below 3", changes(setPast(3, nil)), past(0), fine, fine},
		{"4 is not below 5", changes(setPast(5, []int{0, 1, 2, 3, 5}, full, full)), past(4), fine, fine},
		{"1 is not two below 5", changes(setPast(5, []int{4}, []int{0, 2, 3, 4, 5}, full)), past(4), fine, fine},
		{"1 is not three below 5", changes(setPast(5, []int{4}, []int{1}, []int{0})), past(4), fine, fine},
		{"4 claims more to lie below than 5", changes(setPast(4, []int{1, 3}, []int{0, 1})), past(4), fine, fine},
		{"both claim more", changes(setPast(4, []int{1}, []int{0, 1, 5}), setPast(5, []int{4}, []int{1}, []int{0, 1, 5})), answer{api.ErrGoto, 5}, fine, fine},
		{"incoming ahead of past, of one edge", changes(setIn(1, closes), setPast(1, nil)), incoming(0), fine, fine},
		{"past of one edge ahead of incoming of another", changes(setPast(1, nil), setIn(5, x)), past(0), fine, fine},
		{"edges ahead of states", changes(setPast(5, []int{4}, nil, nil), setAct(0, 0, by(0))), answer{api.ErrPast, 4}, answer{api.ErrAction, 0}, fine},
		{"a state to which nothing leads", changes(setAct(4, 1, fault), setPast(5, nil, nil, nil)), fine, answer{api.ErrAction, 4}, fine},
	})
}

// P18.2: state by state, what is reduced and accepted.
func TestStates(t *testing.T) {
	reduce := func(at int) answer { return answer{api.ErrReduce, at} }
	noGoto := func(at int) answer { return answer{api.ErrGoto, at} }
	noAccept := func(at int) answer { return answer{api.ErrAccept, at} }
	heldOfChanges(t, []changed{
		{"another production", changes(setAct(5, 0, by(1))), reduce(5), fine, fine},
		{"another production under the end marker", changes(setAct(5, 3, by(1))), reduce(5), answer{api.ErrAction, 5}, fine},
		{"state 0 has nothing below", changes(setAct(0, 1, by(1))), reduce(0), fine, fine},
		{"too early", changes(setAct(4, 3, by(0))), reduce(4), fine, fine},
		{"by Default", changes(setRow(5, blind(0, 4, -1))), fine, fine, fine},
		{"another by Default", changes(setRow(5, blind(1, 4, -1))), reduce(5), answer{api.ErrAction, 5}, fine},
		{"under more lookaheads", changes(setAct(5, 0, by(0)), setAct(5, 2, by(0))), fine, fine, fine},
		{"no goto of 0", changes(setGoto(0, 0, -1)), noGoto(2), answer{api.ErrGoto, 0}, fine},
		{"no goto of 1, where 2 is not told to stand above it", changes(setGoto(1, 0, -1), setAct(1, 2, fault), setPast(2, []int{0})), noGoto(5), answer{api.ErrGoto, 1}, fine},
		{"a state below that has no goto", changes(setPast(2, []int{0, 1, 3})), noGoto(2), fine, fine},
		{"a state far below that has no goto", changes(setPast(5, []int{4}, []int{1}, []int{0, 1, 2})), noGoto(5), fine, fine},
		{"states between may have none", changes(setPast(5, []int{2, 4}, []int{1, 5}, []int{0, 1})), fine, fine, fine},
		{"accepts under a terminal", changes(setAct(3, 0, accept)), noAccept(3), fine, fine},
		{"accepts under the last terminal", changes(setAct(3, 2, accept)), noAccept(3), fine, fine},
		{"accepts under a terminal alone", changes(setAct(3, 3, fault), setAct(3, 1, accept)), noAccept(3), answer{api.ErrAction, 3}, fine},
		{"accepts where another symbol comes in", changes(setAct(2, 3, accept)), noAccept(2), answer{api.ErrAction, 2}, fine},
		{"state 0 accepts", changes(setAct(0, 3, accept)), noAccept(0), fine, fine},
		{"accepts inside", changes(setAct(4, 3, accept)), noAccept(4), fine, fine},
		{"accepts where others may stand below", changes(setPast(3, []int{0, 1})), noAccept(3), fine, fine},
		{"accepts where nothing may stand below", changes(setGoto(0, 0, -1), setPast(3, nil), setAct(0, 2, fault), setAct(1, 2, fault), setPast(2, nil), setAct(0, 0, fault), setPast(1, []int{1}), setPast(4, []int{1}, []int{1}), setPast(5, []int{4}, []int{1}, []int{1})), fine, answer{api.ErrGoto, 0}, fine},
		{"reduction ahead of goto, in one state", changes(setAct(2, 0, by(0)), setPast(2, []int{0, 1, 3})), reduce(2), fine, fine},
		{"goto of one production ahead of another's reduction", changes(setAct(5, 2, by(1)), setPast(5, []int{4}, []int{1}, []int{0, 1, 2})), noGoto(5), fine, fine},
		{"reduction ahead of acceptance", changes(setAct(2, 0, accept), setAct(2, 2, by(0))), reduce(2), fine, fine},
		{"goto ahead of acceptance", changes(setAct(2, 0, accept), setPast(2, []int{0, 1, 3})), noGoto(2), fine, fine},
		{"acceptance of a lower state ahead", changes(setAct(3, 0, accept), setAct(4, 3, by(0))), noAccept(3), fine, fine},
		{"reduction of a lower state ahead", changes(setAct(4, 3, by(0)), setAct(5, 0, accept)), reduce(4), fine, fine},
		{"the lowest state is told", changes(setAct(5, 0, by(1)), setAct(0, 1, by(1))), reduce(0), fine, fine},
		{"no acceptance at all", changes(setAct(3, 3, fault)), fine, answer{api.ErrAction, 3}, fine},
		{"gotos that nobody asks for", changes(setGoto(3, 0, 4), setPast(4, []int{1, 3}, []int{0, 1}), setSyms(4), setPast(4, []int{1, 3}), setSyms(5, s), setPast(5, []int{4}, []int{1, 3})), reduce(5), fine, fine},
	})
}

// P18.3: items, by what they await.
func TestItems(t *testing.T) {
	closure := func(at int) answer { return answer{api.ErrClosure, at} }
	action := func(at int) answer { return answer{api.ErrAction, at} }
	initial := answer{api.ErrInitial, 0}
	heldOfChanges(t, []changed{
		{"no start", changes(setItems(0, item(0, 0, 3), item(1, 0, 3))), fine, initial, fine},
		{"no items at all", changes(setItems(0)), fine, initial, fine},
		{"the start behind the dot", changes(setItems(0, item(-1, 1, 3))), fine, initial, fine},
		{"a production's beginning", changes(setItems(0, item(0, 0, 0, 1, 2, 3))), fine, initial, fine},
		{"no lookaheads of the start", changes(setItems(0, item(-1, 0), item(0, 0, 3), item(1, 0, 3))), fine, initial, fine},
		{"others of the start", changes(setItems(0, item(-1, 0, 0, 1, 2), item(0, 0, 0, 1, 2), item(1, 0, 0, 1, 2))), fine, initial, fine},
		{"a start in another state", changes(setItems(0), setItems(1, item(-1, 0, 3))), fine, initial, fine},
		{"no first production", changes(setItems(0, item(-1, 0, 3), item(1, 0, 3))), fine, closure(0), fine},
		{"no last production", changes(setItems(0, item(-1, 0, 3), item(0, 0, 3))), fine, closure(0), fine},
		{"a production without the lookahead", changes(setItems(0, item(-1, 0, 3), item(0, 0, 3), item(1, 0))), fine, closure(0), fine},
		{"a production with others", changes(setItems(0, item(-1, 0, 3), item(0, 0, 0, 1, 2), item(1, 0, 3))), fine, closure(0), fine},
		{"productions without what stands behind", changes(setItems(1, item(0, 0, 3), item(0, 1, 1, 3), item(1, 0, 3))), fine, closure(1), fine},
		{"productions with more than they must", changes(setItems(5, item(0, 0, 0, 2), item(0, 3, 1, 3))), fine, action(5), fine},
		{"a dot inside", changes(setItems(0, item(-1, 0, 3), item(0, 1, 3), item(1, 0, 3))), fine, closure(0), fine},
		{"no goto", changes(setGoto(0, 0, -1), setPast(3, nil)), answer{api.ErrGoto, 2}, answer{api.ErrGoto, 0}, fine},
		{"no shift", changes(setAct(0, 2, fault)), fine, action(0), fine},
		{"a reduction in place of a shift", changes(setAct(4, 1, by(0))), answer{api.ErrReduce, 4}, action(4), fine},
		{"acceptance in place of a shift", changes(setAct(0, 0, accept)), answer{api.ErrAccept, 0}, action(0), fine},
		{"a Default in place of shifts", changes(setRow(4, blind(0, 4, -1))), answer{api.ErrReduce, 4}, action(4), fine},
		{"closure ahead of the goto", changes(setItems(0, item(-1, 0, 3), item(1, 0, 3)), setGoto(0, 0, -1)), answer{api.ErrGoto, 2}, closure(0), fine},
		{"goto ahead of the target", changes(setItems(3), setGoto(0, 0, -1)), answer{api.ErrGoto, 2}, answer{api.ErrGoto, 0}, fine},
		{"the item advanced is not there", changes(setItems(3)), fine, closure(0), fine},
		{"it is there without lookaheads", changes(setItems(3, item(-1, 1))), fine, closure(0), fine},
		{"it has more", changes(setItems(3, item(-1, 1, 1, 3))), fine, action(3), fine},
		{"over a terminal", changes(setItems(2, item(1, 1, 1))), fine, closure(0), fine},
		{"over a terminal, from a later state", changes(setItems(2, item(1, 1, 3))), fine, closure(1), fine},
		{"a lookahead in the middle", changes(setItems(4, item(0, 2, 0, 1, 2, 3)), setItems(5, item(0, 3, 0, 1, 3))), fine, closure(4), fine},
		{"it is there with another dot", changes(setItems(5, item(0, 2, 1, 3))), fine, closure(4), fine},
		{"it is there of another production", changes(setItems(5, item(1, 1, 1, 3))), fine, closure(4), fine},
		{"no reduction", changes(setAct(5, 3, fault)), fine, action(5), fine},
		{"another's reduction", changes(setAct(2, 3, by(0))), answer{api.ErrReduce, 2}, action(2), fine},
		{"a shift in place of a reduction", changes(setAct(2, 1, to(5)), setSyms(5), setPast(5, []int{2, 4})), answer{api.ErrReduce, 5}, action(2), fine},
		{"acceptance in place of a reduction", changes(setAct(5, 3, accept)), answer{api.ErrAccept, 5}, action(5), fine},
		{"a reduction in place of acceptance", changes(setAct(3, 3, by(0))), answer{api.ErrReduce, 3}, action(3), fine},
		{"a Default in place of acceptance", changes(setRow(3, blind(0, 4, -1))), answer{api.ErrReduce, 3}, action(3), fine},
		{"a Default that reduces it", changes(setRow(2, blind(1, 4, -1)), setItems(2, item(1, 1, 0, 1, 2, 3))), fine, fine, fine},
		{"a complete item without lookaheads", changes(setItems(2, item(0, 3), item(1, 1, 1, 3))), fine, fine, fine},
		{"one more that is complete, too", changes(setItems(2, item(0, 3, 3), item(1, 1, 1, 3))), fine, action(2), fine},
		{"a start of no lookaheads, that brings its productions", changes(setItems(5, item(-1, 0), item(0, 3, 1, 3))), fine, closure(5), fine},
		{"the same, with these", changes(setItems(5, item(-1, 0), item(0, 0), item(0, 3, 1, 3), item(1, 0))), fine, answer{api.ErrGoto, 5}, fine},
		{"the lowest state is told", changes(setAct(5, 3, fault), setItems(1, item(0, 0, 3), item(0, 1, 1, 3), item(1, 0, 3))), fine, closure(1), fine},
		{"the first item is told", changes(setItems(0, item(-1, 0, 3), item(0, 0, 3), item(1, 0, 3)), setAct(0, 0, fault), setItems(3)), fine, closure(0), fine},
		{"the first item of a state is told", changes(setItems(4, item(-1, 1, 0), item(0, 2, 1, 3)), setItems(5)), fine, action(4), fine},
	})
}

// claims is S → A B, A → a, B → b: nothing is nullable, but may be claimed to be.
func claims() api.Grammar {
	return grammarOf(2, 3, 0, prod(0, non(1), non(2)), prod(1, term(0)), prod(2, term(1)))
}

// P18.3: what may come behind a nonterminal is told by the certificate's nullable and first, not by the least.
func TestClaims(t *testing.T) {
	g := claims()
	good := merged(g, true)
	at := func(way ...api.Sym) int {
		n, gone := canon.Walk(must(canon.Merged(g)), way)
		if gone != len(way) {
			t.Fatal("no such state:", way)
		}
		return n
	}
	leaf, behind := at(term(0)), at(non(1))
	for _, c := range []struct {
		about string
		do    []change
		want  answer
	}{
		{"as it is", nil, fine},
		{"B is claimed to be nullable, and A has not what stands behind", changes(setNullable(2, true)), answer{api.ErrClosure, 0}},
		{"it has", changes(setNullable(2, true), setItems(0, item(-1, 0, 2), item(0, 0, 2), item(1, 0, 1, 2)), setItems(leaf, item(1, 1, 1, 2))), fine},
		{"but not behind its dot", changes(setNullable(2, true), setItems(0, item(-1, 0, 2), item(0, 0, 2), item(1, 0, 1, 2))), answer{api.ErrClosure, 0}},
		{"B is claimed to begin with a", changes(setFirst(2, 0, 1)), answer{api.ErrClosure, 0}},
		{"A has that", changes(setFirst(2, 0, 1), setItems(0, item(-1, 0, 2), item(0, 0, 2), item(1, 0, 0, 1)), setItems(leaf, item(1, 1, 0, 1))), fine},
		{"A is claimed to be nullable, with all that follows", changes(setNullable(1, true), setFirst(0, 0, 1)), fine},
		{"of the start more may be claimed", changes(setFirst(0, 0, 1)), fine},
		{"behind B stands what stands behind S", changes(setItems(behind, item(0, 1, 2), item(2, 0, 0))), answer{api.ErrClosure, behind}},
	} {
		b := deep(good)
		for _, do := range c.do {
			do(&b)
		}
		if got := held(t, g, b); got[2] != c.want || got[0] != fine {
			t.Error(c.about, got)
		}
	}
}

// P18.1: one fault behind the other, each told ahead of all that are behind it.
func TestShapes(t *testing.T) {
	g, b := nest(), nestBundle()
	g.Prods = append(g.Prods, prod(0, s, s)) // first is closed no more
	g.Prods[2].Right = syms(s, opens)        // nor this
	faults := []struct {
		about string
		do    func(g *api.Grammar, b *api.Bundle)
		want  answer
	}{
		{"first", func(_ *api.Grammar, b *api.Bundle) { b.Cert.First[0] = []int{2} }, answer{api.ErrFirst, 0}},
		{"nullable", func(g *api.Grammar, b *api.Bundle) { g.Prods[2].Right = nil }, answer{api.ErrNullable, 2}},
		{"past states", func(_ *api.Grammar, b *api.Bundle) { b.Cert.PastStates[4] = nil }, answer{api.ErrCert, 4}},
		{"items", func(_ *api.Grammar, b *api.Bundle) { b.Cert.Items[2][0].Dot = 9 }, answer{api.ErrCert, 2}},
		{"first out of range", func(_ *api.Grammar, b *api.Bundle) { b.Cert.First[0] = []int{3} }, answer{api.ErrCert, 0}},
		{"the end marker is shifted", func(_ *api.Grammar, b *api.Bundle) { b.Table.Rows[4].Acts[3] = to(5) }, answer{api.ErrShape, 4}},
		{"in a lower state, too", func(_ *api.Grammar, b *api.Bundle) { b.Table.Rows[1].Acts[3] = to(0) }, answer{api.ErrShape, 1}},
		{"an action that there is not", func(_ *api.Grammar, b *api.Bundle) { b.Table.Rows[5].Acts[0] = to(6) }, answer{api.ErrRange, 5}},
		{"too many gotos", func(_ *api.Grammar, b *api.Bundle) { b.Table.Rows[3].Gotos = []int{-1, -1} }, answer{api.ErrShape, 3}},
		{"a Default and actions", func(_ *api.Grammar, b *api.Bundle) { b.Table.Rows[2].Default = 1 }, answer{api.ErrAction, 2}},
		{"no rows", func(_ *api.Grammar, b *api.Bundle) { b.Table.Rows = nil }, answer{api.ErrStates, 0}},
		{"a nonterminal that gives itself", func(g *api.Grammar, _ *api.Bundle) { g.Prods[2].Right = syms(s) }, answer{api.ErrWell, 0}},
		{"a terminal that is not reached", func(g *api.Grammar, _ *api.Bundle) { g.Terms = append(g.Terms, "y") }, answer{api.ErrWell, 0}},
		{"a barren nonterminal", func(g *api.Grammar, _ *api.Bundle) {
			g.Nons, g.Prods[2].Right = append(g.Nons, "T"), syms(non(1))
		}, answer{api.ErrWell, 0}},
		{"a level that may not be", func(g *api.Grammar, _ *api.Bundle) {
			g.Levels = []api.Level{{Assoc: api.AssocLeft, Terms: []int{0}}, {Assoc: api.AssocLeft}}
		}, answer{api.ErrLevel, 1}},
		{"a symbol that there is not", func(g *api.Grammar, _ *api.Bundle) { g.Prods[1].Right = syms(term(9)) }, answer{api.ErrSymbol, 1}},
		{"no terminals", func(g *api.Grammar, _ *api.Bundle) { g.Terms = nil }, answer{api.ErrTerms, 0}},
	}
	for _, f := range faults {
		f.do(&g, &b)
		if got := held(t, g, b); got != [5]answer{f.want, f.want, f.want, f.want, f.want} {
			t.Error(f.about, got)
		}
	}
	if got := held(t, api.Grammar{}, api.Bundle{}); got[4] != (answer{api.ErrTerms, 0}) {
		t.Error("nothing:", got)
	}
	if got := held(t, nest(), api.Bundle{}); got[4] != (answer{api.ErrStates, 0}) {
		t.Error("no bundle:", got)
	}
	if got := held(t, nest(), api.Bundle{Table: nestBundle().Table}); got[4] != (answer{api.ErrCert, 0}) {
		t.Error("no certificate:", got)
	}
}

// P18.1: each fault of a grammar, with the place that grammar.Check tells.
func TestWrongGrammars(t *testing.T) {
	for _, do := range []func(g *api.Grammar){
		func(g *api.Grammar) { g.Nons = nil },
		func(g *api.Grammar) { g.Terms[1] = "S" },
		func(g *api.Grammar) { g.Terms[2] = "" },
		func(g *api.Grammar) { g.Start = -1 },
		func(g *api.Grammar) { g.Prods = nil },
		func(g *api.Grammar) { g.Prods[1].Left = 7 },
		func(g *api.Grammar) { g.Prods[1].Right = slices.Repeat(syms(x), 17) },
		func(g *api.Grammar) { g.Prods[1] = g.Prods[0] },
		func(g *api.Grammar) { g.Prods[1].Prec = 9 },
		func(g *api.Grammar) { g.Levels = make([]api.Level, 33) },
	} {
		g := nest()
		do(&g)
		e, at := grammar.Check(g)
		want := answer{e, at}
		if got := held(t, g, nestBundle()); e == api.OK || got != [5]answer{want, want, want, want, want} {
			t.Errorf("%v: %v, want %v", g, got, want)
		}
	}
}

// hollow is S → A S b, S → c, A → nothing: whoever pushes an A may push the next.
func hollow() api.Grammar {
	return grammarOf(2, 2, 0, prod(0, non(1), s, term(0)), prod(0, term(1)), prod(1))
}

// hollowTable pushes A under b, and then again.
func hollowTable() api.Table {
	return api.Table{Rows: []api.Row{
		looks(acts(by(2), to(2), fault), 3, 1),
		looks(acts(by(2), to(2), fault), 4, 1),
		looks(acts(by(1), fault, by(1)), -1, -1),
		looks(acts(fault, fault, accept), -1, -1),
		looks(acts(to(5), fault, fault), -1, -1),
		looks(acts(by(0), fault, by(0)), -1, -1),
	}}
}

// P18.4: which states are reached from themselves, over which symbols.
func TestEnds(t *testing.T) {
	g := hollow()
	good, ok := best(g, hollowTable())
	if !ok {
		t.Fatal("no certificate")
	}
	loop := func(at int) answer { return answer{api.ErrLoop, at} }
	for _, c := range []struct {
		about string
		do    []change
		want  answer
	}{
		{"from 1 to itself", nil, loop(1)},
		{"none", changes(setGoto(1, 1, -1)), fine},
		{"over what is not nullable", changes(setGoto(1, 1, -1), setGoto(2, 0, 2)), fine},
		{"over what is claimed to be nullable", changes(setGoto(1, 1, -1), setGoto(2, 0, 2), setNullable(0, true)), loop(2)},
		{"over a terminal", changes(setGoto(1, 1, -1), setAct(5, 0, to(5))), fine},
		{"by two edges", changes(setGoto(1, 1, 4), setGoto(4, 1, 1)), loop(1)},
		{"by three edges, over both", changes(setGoto(1, 1, 5), setGoto(5, 0, 4), setGoto(4, 1, 1), setNullable(0, true)), loop(1)},
		{"by three edges, one of which does not count", changes(setGoto(1, 1, 5), setGoto(5, 0, 4), setGoto(4, 1, 1)), fine},
		{"to state 0", changes(setGoto(0, 1, 0)), loop(0)},
		{"back to state 0", changes(setGoto(1, 1, 0)), loop(0)},
		{"round the last states", changes(setGoto(1, 1, -1), setGoto(5, 1, 4), setGoto(4, 1, 5)), loop(4)},
		{"the last to itself", changes(setGoto(1, 1, -1), setGoto(5, 1, 5)), loop(5)},
		{"of two loops the lowest", changes(setGoto(1, 1, -1), setGoto(5, 1, 5), setGoto(4, 1, 3), setGoto(3, 1, 4)), loop(3)},
		{"of two loops the lowest, of one edge", changes(setGoto(1, 1, -1), setGoto(2, 1, 2), setGoto(4, 1, 3), setGoto(3, 1, 4)), loop(2)},
		{"a way into a loop is none", changes(setGoto(0, 1, 1), setGoto(1, 1, 2), setGoto(2, 1, 3), setGoto(3, 1, 3)), loop(3)},
		{"a way that goes down", changes(setGoto(0, 1, 5), setGoto(5, 1, 4), setGoto(4, 1, 3), setGoto(3, 1, 2), setGoto(2, 1, 1), setGoto(1, 1, -1)), fine},
		{"of a row that does not look", changes(setGoto(1, 1, -1), setRow(5, blind(0, 3, -1, 5))), loop(5)},
	} {
		b := deep(good)
		b.Cert.First[0], b.Cert.First[1] = []int{0, 1}, nil
		for _, do := range c.do {
			do(&b)
		}
		if got := held(t, g, b); got[3] != c.want || got[0] != fine {
			t.Error(c.about, got)
		}
	}
}

// P18.5: the checks' order: Sound ahead of Complete, Complete ahead of Ends, be the places what they may.
func TestOrder(t *testing.T) {
	g := hollow()
	good, ok := best(g, hollowTable())
	if !ok {
		t.Fatal("no certificate")
	}
	b := deep(good)
	b.Cert.Items = make([][]api.Item, 6)
	b.Cert.Items[0] = list(item(-1, 0, 2))
	b.Cert.PastStates[5] = [][]int{{4}, {1}, {0, 1, 2}}
	if got := held(t, g, b); got != [5]answer{fine, {api.ErrGoto, 5}, {api.ErrClosure, 0}, {api.ErrLoop, 1}, {api.ErrGoto, 5}} {
		t.Error("all three:", got)
	}
	b.Cert.PastStates[5] = good.Cert.PastStates[5]
	if got := held(t, g, b); got[4] != (answer{api.ErrClosure, 0}) {
		t.Error("Complete ahead of Ends:", got)
	}
	b = circling()
	if got := held(t, nest(), b); got != [5]answer{fine, fine, fine, {api.ErrLoop, 6}, {api.ErrLoop, 6}} {
		t.Error("Ends alone:", got)
	}
	b.Table.Rows[2].Acts[1] = fault
	if got := held(t, nest(), b); got[4] != (answer{api.ErrAction, 2}) {
		t.Error("Complete ahead of a loop:", got)
	}
}

// circling is nest's bundle with one state more, in which nothing but a loop is: no run comes there, but that is not claimed.
func circling() api.Bundle {
	b := nestBundle()
	b.Table.Rows[3].Gotos[0] = 6
	b.Table.Rows = append(b.Table.Rows, looks(make([]api.Action, 4), 6))
	c := &b.Cert
	c.Nullable[0] = true
	c.Items, c.Incoming = append(c.Items, nil), append(c.Incoming, s)
	c.PastSyms, c.PastStates = append(c.PastSyms, nil), append(c.PastStates, [][]int{{3, 6}})
	return b
}

// P18: a Valid that Validate did not make.
func TestNotMade(t *testing.T) {
	var none *validate.Valid
	for _, v := range []*validate.Valid{none, {}, new(validate.Valid)} {
		if g, y := v.Grammar(), v.Table(); v.Made() || !reflect.DeepEqual(g, api.Grammar{}) || !reflect.DeepEqual(y, api.Table{}) {
			t.Error(v.Made(), g, y)
		}
	}
}

// P18.1 to P18.5: every small grammar, with conflicts or not.
func TestSmallGrammars(t *testing.T) {
	seen := map[api.Errno]int{}
	eachSmall(func(g api.Grammar) {
		for _, defaults := range []bool{false, true} {
			seen[held(t, g, merged(g, defaults))[4].e]++
		}
	})
	if seen[api.OK] < 100 || seen[api.ErrAction] < 100 {
		t.Error("too seldom:", seen)
	}
}

// P18.1 to P18.5: bundles with some things changed.
func TestTurned(t *testing.T) {
	r := rand.New(rand.NewSource(185))
	var seen [5]map[api.Errno]int
	for n := range seen {
		seen[n] = map[api.Errno]int{}
	}
	for range 4000 {
		g := anyWell(r, 3, 3, 6, 4)
		b, ok := anyBundle(r, g, 40)
		if !ok {
			continue
		}
		for range 8 {
			for n, a := range held(t, g, turned(r, g, b, r.Intn(4) == 0)) {
				seen[n][a.e]++
			}
		}
	}
	for n, want := range [][]api.Errno{
		{api.OK, api.ErrShape, api.ErrRange, api.ErrAction, api.ErrCert, api.ErrNullable, api.ErrFirst},
		{api.OK, api.ErrIncoming, api.ErrPast, api.ErrReduce, api.ErrGoto, api.ErrAccept, api.ErrShape},
		{api.OK, api.ErrInitial, api.ErrClosure, api.ErrGoto, api.ErrAction, api.ErrCert},
		{api.OK, api.ErrLoop, api.ErrCert},
		{api.OK, api.ErrIncoming, api.ErrPast, api.ErrReduce, api.ErrGoto, api.ErrAccept, api.ErrInitial, api.ErrClosure, api.ErrAction},
	} {
		for _, e := range want {
			if seen[n][e] < 50 {
				t.Error("too seldom:", n, e, seen[n])
			}
		}
	}
}

func FuzzBundles(f *testing.F) {
	f.Add([]byte{0, 3, 1, 3, 255, 0, 0, 255, 0, 3, 2, 3}, int64(1))
	f.Add([]byte{1, 2, 0, 255, 0, 3, 4, 255, 2, 5, 5, 1}, int64(2))
	f.Fuzz(func(t *testing.T, l []byte, seed int64) {
		r := rand.New(rand.NewSource(seed))
		g := grammarOf(3, 3, 0)
		for i := 0; i < len(l) && i < 24; i++ {
			p := prod(int(l[i] % 3))
			for i++; i < len(l) && l[i] < 200 && len(p.Right) < 4; i++ {
				p.Right = append(p.Right, symbolsOf(g)[l[i]%6])
			}
			g.Prods = append(g.Prods, p)
		}
		if !isWell(g) {
			return
		}
		if b, ok := anyBundle(r, g, 60); ok {
			held(t, g, b)
			held(t, g, turned(r, g, b, true))
		}
	})
}
