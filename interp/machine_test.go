package interp_test

import (
	"math/rand"
	"slices"
	"testing"

	"gantry/api"
	"gantry/interp"
	"gantry/validate"
)

// started is a machine to which a text has come.
func started(t testing.TB, v *validate.Valid, w []api.Token) *interp.Machine {
	t.Helper()
	m, e := interp.Start(v)
	if e != api.OK || m == nil {
		t.Fatal("Start:", e)
	}
	for at, tok := range w {
		if ok, e := m.Push(tok); !ok || e != api.OK {
			t.Fatal("Push:", at, tok, ok, e)
		}
	}
	return m
}

// P19.2: a text is pushed token by token.
func TestMachine(t *testing.T) {
	for _, defaults := range []bool{false, true} {
		m := started(t, merged(nest(), defaults), nil)
		w := textOf(0, 2, 1)
		stacks := [][]int{{0}, {0, 1}, {0, 1, 2}, {0, 1, 4, 5}}
		nexts := [][]int{{0, 2}, {0, 2}, {1}, {3}}
		for at := range len(w) + 1 {
			if l := m.Stack(); !slices.Equal(l, stacks[at]) {
				t.Error("Stack:", defaults, at, l)
			}
			if l := m.Next(); !slices.Equal(l, nexts[at]) {
				t.Error("Next:", defaults, at, l)
			}
			if at < len(w) {
				if ok, e := m.Push(w[at]); !ok || e != api.OK {
					t.Error("Push:", defaults, at, ok, e)
				}
			}
		}
		want := api.Result{Accepted: true, Tree: node(0, leaf(w[0]), node(1, leaf(w[1])), leaf(w[2])), Steps: 6, Pops: 4}
		for range 3 {
			if r, e := m.End(); e != api.OK || !sameResult(r, want) {
				t.Error("End:", defaults, r, e)
			}
			if ok, e := m.Push(api.Token{Kind: 0}); ok || e != api.ErrStep {
				t.Error("Push behind the end:", defaults, ok, e)
			}
			if l := m.Next(); len(l) != 0 {
				t.Error("Next behind the end:", defaults, l)
			}
			if l := m.Stack(); !slices.Equal(l, []int{0, 3}) {
				t.Error("Stack behind the end:", defaults, l)
			}
		}
	}
}

// P19.2: a run that was refused, by a token or by the end, is over, and stays so.
func TestRefusedMachine(t *testing.T) {
	over := func(about string, m *interp.Machine, want api.Result, stack ...int) {
		t.Helper()
		for range 3 {
			if ok, e := m.Push(api.Token{Kind: 1}); ok || e != api.ErrStep {
				t.Error(about, "Push:", ok, e)
			}
			if l := m.Next(); len(l) != 0 {
				t.Error(about, "Next:", l)
			}
			if l := m.Stack(); !slices.Equal(l, stack) {
				t.Error(about, "Stack:", l)
			}
			if r, e := m.End(); e != api.OK || !sameResult(r, want) {
				t.Error(about, "End:", r, e)
			}
		}
	}
	for _, kind := range append(strangeKinds(3), 0, 2) {
		m := started(t, merged(nest(), false), textOf(0, 2))
		if ok, e := m.Push(api.Token{Kind: kind}); ok || e != api.OK {
			t.Error("a token that may not come:", kind, ok, e)
		}
		over("looked", m, api.Result{At: 2, Steps: 3}, 0, 1, 2)
		m = started(t, merged(nest(), true), textOf(0, 2))
		if ok, e := m.Push(api.Token{Kind: kind}); ok || e != api.OK {
			t.Error("a token that may not come:", kind, ok, e)
		}
		over("reduced ahead", m, api.Result{At: 2, Steps: 4, Pops: 1}, 0, 1, 4)
	}
	m := started(t, merged(nest(), false), textOf(0))
	if r, e := m.End(); e != api.OK || r.Accepted || r.At != 1 {
		t.Error("too early an end:", r, e)
	}
	over("ended", m, api.Result{At: 1, Steps: 2}, 0, 1)
	m = started(t, merged(nest(), true), nil)
	if r, e := m.End(); e != api.OK || r.Accepted || r.At != 0 || r.Steps != 1 {
		t.Error("no text:", r, e)
	}
	over("ended at once", m, api.Result{Steps: 1}, 0)
}

// P19.2: machines that Start did not make.
func TestNoMachine(t *testing.T) {
	var zero interp.Machine
	for _, m := range []*interp.Machine{nil, &zero, new(interp.Machine)} {
		for range 2 {
			if ok, e := m.Push(api.Token{}); ok || e != api.ErrMade {
				t.Error("Push:", ok, e)
			}
			if r, e := m.End(); e != api.ErrMade || !isNone(r) {
				t.Error("End:", r, e)
			}
			if l := m.Stack(); len(l) != 0 {
				t.Error("Stack:", l)
			}
			if l := m.Next(); len(l) != 0 {
				t.Error("Next:", l)
			}
			if c := m.Copy(); c != nil {
				t.Error("Copy:", c)
			}
		}
	}
}

// P19.2: a copy goes its own way, and so does what it was made of.
func TestCopy(t *testing.T) {
	w := textOf(0, 0, 2)
	m := started(t, merged(nest(), true), w)
	c, d := m.Copy(), m.Copy()
	for _, kind := range []int{1, 1} {
		if ok, e := c.Push(api.Token{Kind: kind, Text: "c"}); !ok || e != api.OK {
			t.Error("the copy:", ok, e)
		}
	}
	if ok, e := d.Push(api.Token{Kind: 2}); ok || e != api.OK {
		t.Error("the other copy:", ok, e)
	}
	if l := m.Stack(); !slices.Equal(l, []int{0, 1, 1, 2}) || !slices.Equal(m.Next(), []int{1}) {
		t.Error("what was copied has changed:", l, m.Next())
	}
	for _, kind := range []int{1, 1} {
		if ok, e := m.Push(api.Token{Kind: kind, Text: "m"}); !ok || e != api.OK {
			t.Error("what was copied:", ok, e)
		}
	}
	for _, one := range []struct {
		m    *interp.Machine
		text string
	}{{m, "m"}, {c, "c"}, {m, "m"}, {c.Copy(), "c"}, {m.Copy(), "m"}} {
		behind := leaf(api.Token{Kind: 1, Text: one.text})
		want := node(0, leaf(w[0]), node(0, leaf(w[1]), node(1, leaf(w[2])), behind), behind)
		if r, e := one.m.End(); e != api.OK || !sameResult(r, api.Result{Accepted: true, Tree: want, Steps: 9, Pops: 7}) {
			t.Error("End:", one.text, r, e)
		}
	}
	for _, one := range []*interp.Machine{d, d.Copy()} {
		if r, e := one.End(); e != api.OK || !sameResult(r, api.Result{At: 3, Steps: 5, Pops: 1}) {
			t.Error("End of the refused one:", r, e)
		}
		if _, e := one.Push(api.Token{Kind: 1}); e != api.ErrStep {
			t.Error("Push of the refused one:", e)
		}
	}
	if _, e := c.Copy().Push(api.Token{Kind: 1}); e != api.ErrStep {
		t.Error("Push of a copy that has ended:", e)
	}
}

// heldOfMachine holds a machine, to which a text comes token by token, against Parse and the model.
func heldOfMachine(t *testing.T, v *validate.Valid, w []api.Token) {
	t.Helper()
	g, y := v.Grammar(), v.Table()
	r, _ := interp.Parse(v, w)
	m := started(t, v, nil)
	come := len(w)
	if !r.Accepted {
		come = min(come, r.At+1)
	}
	for at := range come + 1 {
		model := settled(g, y, w[:at])
		if l := m.Stack(); !slices.Equal(l, model.states()) {
			t.Fatalf("P19.2: %v, %v over %v: Stack %v, want %v", g, y, w[:at], l, model.states())
		}
		if l, want := m.Next(), wouldGo(g, y, w[:at]); !slices.Equal(l, want) {
			t.Fatalf("P19.2: %v, %v over %v: Next %v, want %v", g, y, w[:at], l, want)
		}
		if at == come {
			break
		}
		ok, e := m.Push(w[at])
		if e != api.OK || ok != (r.Accepted || at < r.At) {
			t.Fatalf("P19.7: %v, %v over %v: Push of %d: %v, %v", g, y, w, at, ok, e)
		}
	}
	for range 2 {
		if ended, e := m.End(); e != api.OK || !sameResult(ended, r) {
			t.Fatalf("P19.7: %v, %v over %v: End %v, %v, Parse %v", g, y, w, ended, e, r)
		}
	}
	if ok, e := m.Push(api.Token{}); ok || e != api.ErrStep || len(m.Next()) != 0 {
		t.Fatalf("P19.2: %v, %v over %v: it goes on: %v, %v", g, y, w, ok, e)
	}
}

// heldOfNext holds what a machine says of what comes next against what then comes.
func heldOfNext(t *testing.T, m *interp.Machine, terms int) {
	t.Helper()
	next := m.Next()
	if !slices.IsSorted(next) || len(slices.Compact(slices.Clone(next))) != len(next) {
		t.Fatal("P19.2: it does not rise:", next)
	}
	for look := -1; look <= terms+1; look++ {
		ok, e := m.Copy().Push(api.Token{Kind: look})
		if e != api.OK || ok != (look < terms && slices.Contains(next, look)) {
			t.Fatalf("P19.7: Next %v, Push of %d: %v, %v", next, look, ok, e)
		}
	}
	if r, e := m.Copy().End(); e != api.OK || r.Accepted != slices.Contains(next, terms) {
		t.Fatalf("P19.7: Next %v, End: %v, %v", next, r, e)
	}
}

// P19.7: what a machine says comes next is what is shifted then, along any way.
func TestAnyWay(t *testing.T) {
	r := rand.New(rand.NewSource(197))
	ways, longest := 0, 0
	for range 3000 {
		g := anyWell(r, 3, 4, 7, 4)
		v := anyTaken(r, g, 60)
		if v == nil {
			continue
		}
		m := started(t, v, nil)
		var w []api.Token
		for range 12 {
			heldOfNext(t, m, len(g.Terms))
			l := m.Next()
			if n := len(l); n > 0 && l[n-1] == len(g.Terms) {
				l = l[:n-1]
			}
			if len(l) == 0 {
				break
			}
			w = append(w, api.Token{Kind: pick(r, l), Text: "p"})
			if ok, e := m.Push(w[len(w)-1]); !ok || e != api.OK {
				t.Fatal("P19.7:", g, v.Table(), w, ok, e)
			}
		}
		heldOfMachine(t, v, w)
		ways++
		longest = max(longest, len(w))
	}
	if ways < 500 || longest < 12 {
		t.Error("too seldom:", ways, longest)
	}
}
