package validate_test

import (
	"math/rand"
	"testing"

	"gantry/api"
	"gantry/canon"
	"gantry/sentence"
	"gantry/table"
	"gantry/validate"
)

// isAmbiguous tells whether a short text has two trees of start.
func isAmbiguous(g api.Grammar) bool {
	for length := range 6 {
		for _, w := range must(sentence.Words(g, g.Start, length, 40)) {
			if must(sentence.Count(g, g.Start, w)) > 1 {
				return true
			}
		}
	}
	return false
}

// ways are what a state may do where it wants more than one thing.
func ways(c api.Conflict) []api.Action {
	l := acts(fault)
	if c.Shift >= 0 {
		l = append(l, to(c.Shift))
	}
	for _, p := range c.Reduce {
		if p == -1 {
			l = append(l, accept)
		} else {
			l = append(l, by(p))
		}
	}
	return l
}

// eachSettled goes over tables of an automaton, its conflicts settled in all ways, or in some, if there are too many.
func eachSettled(r *rand.Rand, g api.Grammar, a api.Automaton, do func(y api.Table)) {
	const most = 40
	conflicts := must(canon.Conflicts(g, a))
	y, _, _, e := table.Build(g, a)
	must(y, e)
	all := 1
	for _, c := range conflicts {
		all = min(all*len(ways(c)), most)
	}
	for n := range all {
		if all == most {
			n = r.Int()
		}
		for _, c := range conflicts {
			l := ways(c)
			y.Rows[c.State].Acts[c.Look] = l[n%len(l)]
			n /= len(l)
		}
		do(y)
	}
}

// refuses holds that a table is not taken, whatever is claimed of it: the best certificate is refused. False, if there is none.
func refuses(t *testing.T, g api.Grammar, y api.Table) bool {
	t.Helper()
	b, ok := best(g, y)
	if ok && isOK(validate.Complete(g, b)) && isOK(validate.Sound(g, b)) {
		t.Fatalf("P18.11: an ambiguous grammar: %v, %v", g, b)
	}
	if _, e, _ := validate.Validate(g, b); e == api.OK {
		t.Fatalf("P18.11: an ambiguous grammar: %v, %v", g, b)
	}
	return ok
}

// heldOfAmbiguous holds an ambiguous grammar against tables of both automata, and of nobody.
func heldOfAmbiguous(t *testing.T, r *rand.Rand, g api.Grammar, seen map[string]int) {
	t.Helper()
	settled := func(y api.Table) {
		if refuses(t, g, y) {
			seen["settled"]++
		}
	}
	for _, make := range []func(api.Grammar) (api.Automaton, api.Errno){canon.Merged, canon.Canonical} {
		if a, e := make(g); e == api.OK && len(a.States) <= 60 {
			eachSettled(r, g, a, settled)
		}
	}
	for range 3 {
		if b, ok := anySound(r, g, 2+r.Intn(7)); ok && refuses(t, g, b.Table) {
			seen["sound"]++
		}
	}
	if b, ok := anyBundle(r, g, 60); ok {
		for range 3 {
			other := turned(r, g, b, false)
			if e, _ := validate.Shapes(g, other); e == api.OK && refuses(t, g, other.Table) {
				seen["turned"]++
			}
			if got := held(t, g, other); got[1] == fine && got[2] == fine {
				t.Fatalf("P18.11: an ambiguous grammar: %v, %v", g, other)
			}
		}
	}
	seen["grammars"]++
}

// P18.11: no table and no certificate of an ambiguous grammar.
func TestAmbiguous(t *testing.T) {
	r := rand.New(rand.NewSource(1811))
	seen := map[string]int{}
	heldOfAmbiguous(t, r, grammarOf(1, 1, 0, prod(0, s, s), prod(0, term(0))), seen)
	heldOfAmbiguous(t, r, grammarOf(2, 1, 0, prod(0, s, term(0), s), prod(0, term(1))), seen)
	if seen["grammars"] != 2 || seen["settled"] < 4 {
		t.Error("too seldom:", seen)
	}
	eachSmall(func(g api.Grammar) {
		if isAmbiguous(g) {
			heldOfAmbiguous(t, r, g, seen)
		}
	})
	for range 600 {
		if g := anyWell(r, 3, 3, 7, 3); isAmbiguous(g) {
			heldOfAmbiguous(t, r, g, seen)
		}
	}
	for _, name := range []string{"grammars", "settled", "sound", "turned"} {
		if seen[name] < 300 {
			t.Error("too seldom:", seen)
		}
	}
}
