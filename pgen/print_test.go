package pgen_test

import (
	"math"
	"strconv"
	"strings"
	"testing"

	"gantry/api"
	"gantry/grammar"
	"gantry/pgen"
	"gantry/trees"
)

func conflict(state, look, shift int, reduce ...int) api.Conflict {
	return api.Conflict{State: state, Look: look, Shift: shift, Reduce: reduce}
}

// threeProds has two terminals and three productions.
func threeProds() api.Grammar {
	return grammarOf(2, 1, 0, prod(0), prod(0, term(0)), prod(0, term(1)))
}

// P20.6: a line of each conflict, whatever is in it, as long as there are such symbols and productions.
func TestPrintReport(t *testing.T) {
	g := threeProds()
	for _, c := range []struct {
		about string
		r     api.Report
		want  string
	}{
		{"none", api.Report{}, ""},
		{"empty lists", api.Report{Undecided: []api.Conflict{}, Decided: []api.Conflict{}, Decisions: []api.Decision{}}, ""},
		{"a shift and a reduction", api.Report{Undecided: []api.Conflict{conflict(4, 1, 3, 0)}}, "state 4 under t1: shift 3, reduce 0\n"},
		{"reductions", api.Report{Undecided: []api.Conflict{conflict(12, 2, -1, 0, 1, 2)}}, "state 12 under $: reduce 0, reduce 1, reduce 2\n"},
		{"acceptance", api.Report{Undecided: []api.Conflict{conflict(0, 2, -1, -1, 2)}}, "state 0 under $: accept, reduce 2\n"},
		{"all of it, in any order", api.Report{Undecided: []api.Conflict{conflict(0, 0, 0, 2, -1, 2)}}, "state 0 under t0: shift 0, reduce 2, accept, reduce 2\n"},
		{"a shift alone", api.Report{Undecided: []api.Conflict{conflict(1, 0, 7)}}, "state 1 under t0: shift 7\n"},
		{"nothing", api.Report{Undecided: []api.Conflict{conflict(1, 0, -1)}}, "state 1 under t0: \n"},
		{"numbers of any size", api.Report{Undecided: []api.Conflict{conflict(math.MinInt, 0, math.MaxInt, 0), conflict(-1, 1, -2)}},
			"state -9223372036854775808 under t0: shift 9223372036854775807, reduce 0\nstate -1 under t1: shift -2\n"},
		{"decided", api.Report{
			Decided: []api.Conflict{conflict(1, 0, 2, 0), conflict(2, 0, 2, 1), conflict(3, 0, 2, 2), conflict(4, 1, -1), conflict(4, 2, -1, -1)},
			Decisions: []api.Decision{{Kind: api.DecideShift, Prod: -1}, {Kind: api.DecideReduce, Prod: 1}, {Kind: api.DecideError, Prod: 5}, {Kind: api.DecideNone},
				{Kind: 4, Look: 9, By: 77, Dropped: []int{3}}},
		}, "state 1 under t0: shift 2, reduce 0 -> shift\nstate 2 under t0: shift 2, reduce 1 -> reduce 1\nstate 3 under t0: shift 2, reduce 2 -> error\nstate 4 under t1:  -> none\nstate 4 under $: accept -> none\n"},
		{"decisions of any numbers", api.Report{
			Decided:   []api.Conflict{conflict(1, 0, 2, 0), conflict(1, 0, 2, 0), conflict(1, 0, 2, 0)},
			Decisions: []api.Decision{{Kind: api.DecideReduce, Prod: 1000}, {Kind: api.DecideReduce, Prod: -7}, {Kind: -1}},
		}, "state 1 under t0: shift 2, reduce 0 -> reduce 1000\nstate 1 under t0: shift 2, reduce 0 -> reduce -7\nstate 1 under t0: shift 2, reduce 0 -> none\n"},
		{"undecided ones ahead", api.Report{
			Undecided: []api.Conflict{conflict(9, 0, 2, 0), conflict(3, 1, 2, 0)},
			Decided:   []api.Conflict{conflict(1, 0, 2, 0)},
			Decisions: []api.Decision{{Kind: api.DecideShift}},
		}, "state 9 under t0: shift 2, reduce 0\nstate 3 under t1: shift 2, reduce 0\nstate 1 under t0: shift 2, reduce 0 -> shift\n"},
	} {
		if s, e := pgen.PrintReport(g, c.r); e != api.OK || s != c.want {
			t.Errorf("P20.6: %s: %q, %v, want %q", c.about, s, e, c.want)
		}
	}
	one := api.Report{Undecided: []api.Conflict{conflict(1, 0, 2, 0)}}
	if s, e := pgen.PrintReport(readOf(t, "S : '$' | ;"), one); e != api.OK || s != "state 1 under '$': shift 2, reduce 0\n" {
		t.Errorf("P20.6: a quoted name: %q, %v", s, e)
	}
}

// P20.6: the errors, in their order.
func TestPrintReportFaults(t *testing.T) {
	g := threeProds()
	good := conflict(1, 0, 2, 0)
	for _, c := range []struct {
		about string
		g     api.Grammar
		r     api.Report
		e     api.Errno
	}{
		{"no grammar", api.Grammar{}, api.Report{}, api.ErrTerms},
		{"no grammar, and all else wrong", grammarOf(1, 1, 1, prod(0)), api.Report{Undecided: []api.Conflict{conflict(0, -1, 0)}, Decisions: make([]api.Decision, 1)}, api.ErrStart},
		{"a decision too many", g, api.Report{Decisions: make([]api.Decision, 1)}, api.ErrArg},
		{"a decision too few", g, api.Report{Decided: []api.Conflict{good, good}, Decisions: make([]api.Decision, 1)}, api.ErrArg},
		{"undecided ones need no decision", g, api.Report{Undecided: []api.Conflict{good}, Decisions: make([]api.Decision, 1)}, api.ErrArg},
		{"a decision too few ahead of a look", g, api.Report{Undecided: []api.Conflict{conflict(0, 3, 0)}, Decided: []api.Conflict{good}}, api.ErrArg},
		{"a look below", g, api.Report{Undecided: []api.Conflict{conflict(0, -1, 0)}}, api.ErrRange},
		{"a look above", g, api.Report{Undecided: []api.Conflict{good, conflict(0, 3, 0)}}, api.ErrRange},
		{"a look far off", g, api.Report{Undecided: []api.Conflict{conflict(0, math.MaxInt, 0)}}, api.ErrRange},
		{"a production below", g, api.Report{Undecided: []api.Conflict{conflict(0, 0, 0, -2)}}, api.ErrRange},
		{"a production above", g, api.Report{Undecided: []api.Conflict{conflict(0, 0, 0, 0, 3)}}, api.ErrRange},
		{"a production far off", g, api.Report{Undecided: []api.Conflict{conflict(0, 0, 0, math.MinInt)}}, api.ErrRange},
		{"a decided one's look", g, api.Report{Decided: []api.Conflict{good, conflict(0, 3, 0)}, Decisions: make([]api.Decision, 2)}, api.ErrRange},
		{"a decided one's production", g, api.Report{Decided: []api.Conflict{conflict(0, 2, 0, 3)}, Decisions: make([]api.Decision, 1)}, api.ErrRange},
	} {
		if s, e := pgen.PrintReport(c.g, c.r); e != c.e || s != "" {
			t.Errorf("P20.6: %s: %q, %v, want %v", c.about, s, e, c.e)
		}
	}
}

// leaf and node are trees.
func leaf(kind int) api.Tree { return api.Tree{Prod: -1, Tok: api.Token{Kind: kind, Text: "any"}} }

func node(prod int, kids ...api.Tree) api.Tree { return api.Tree{Prod: prod, Kids: kids} }

// P20.6: results, whoever made them.
func TestPrintResult(t *testing.T) {
	g := readOf(t, nest)
	open, shut, x := leaf(0), leaf(1), leaf(2)
	for _, c := range []struct {
		about string
		r     api.Result
		want  string
		e     api.Errno
	}{
		{"zero", api.Result{}, "refused at 0", api.OK},
		{"a place", api.Result{At: 17, Steps: 4, Pops: -2}, "refused at 17", api.OK},
		{"a place below 0", api.Result{At: -17}, "refused at -17", api.OK},
		{"the lowest place", api.Result{At: math.MinInt}, "refused at -9223372036854775808", api.OK},
		{"a refusal with a tree that is none", api.Result{At: 2, Tree: node(7)}, "refused at 2", api.OK},
		{"a tree", api.Result{Accepted: true, Tree: node(0, open, node(1, x), shut)}, "accepted (S '(' (S 'x') ')')", api.OK},
		{"a tree beside a place", api.Result{Accepted: true, At: 5, Tree: node(1, x)}, "accepted (S 'x')", api.OK},
		{"a leaf", api.Result{Accepted: true, Tree: open}, "accepted '('", api.OK},
		{"the zero tree", api.Result{Accepted: true}, "", api.ErrTree},
		{"no such production", api.Result{Accepted: true, Tree: node(2, x)}, "", api.ErrTree},
		{"no such terminal", api.Result{Accepted: true, Tree: leaf(3)}, "", api.ErrLeaf},
		{"another symbol", api.Result{Accepted: true, Tree: node(1, open)}, "", api.ErrLeaf},
		{"a kid too many", api.Result{Accepted: true, Tree: node(1, x, x)}, "", api.ErrTree},
	} {
		s, e := pgen.PrintResult(g, c.r)
		if e != c.e || s != c.want {
			t.Errorf("P20.6: %s: %q, %v, want %q, %v", c.about, s, e, c.want, c.e)
		}
		if f, _ := trees.Check(g, c.r.Tree); c.r.Accepted && e != f {
			t.Errorf("P20.6: %s: %v, Check tells %v", c.about, e, f)
		}
	}
	for _, r := range []api.Result{{}, {Accepted: true, Tree: leaf(0)}, {Accepted: true}} {
		if s, e := pgen.PrintResult(api.Grammar{}, r); e != api.ErrTerms || s != "" {
			t.Error("P20.6: no grammar:", s, e)
		}
		bad := grammarOf(1, 1, 0, prod(0), prod(0))
		if f, _ := grammar.Check(bad); f != api.ErrTwice {
			t.Fatal(f)
		} else if s, e := pgen.PrintResult(bad, r); e != f || s != "" {
			t.Error("P20.6: no grammar:", s, e)
		}
	}
}

// P20.6, P5 of DOC.md: a tree as deep as it likes, and a report as long.
func TestPrintGreat(t *testing.T) {
	const n = 200000
	g := readOf(t, "%term a S : a S | ;")
	tree := node(1)
	for range n {
		tree = node(0, leaf(0), tree)
	}
	want := "accepted " + strings.Repeat("(S a ", n) + "(S" + strings.Repeat(")", n+1)
	if s, e := pgen.PrintResult(g, api.Result{Accepted: true, Tree: tree}); e != api.OK || s != want {
		t.Error("P20.6: a deep tree:", len(s), e)
	}
	var r api.Report
	var lines strings.Builder
	for i := range n {
		r.Undecided = append(r.Undecided, conflict(i, 0, i+1, 0))
		lines.WriteString("state " + strconv.Itoa(i) + " under a: shift " + strconv.Itoa(i+1) + ", reduce 0\n")
	}
	if s, e := pgen.PrintReport(g, r); e != api.OK || s != lines.String() {
		t.Error("P20.6: a long report:", len(s), e)
	}
}
