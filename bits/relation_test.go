package bits_test

import (
	"math"
	"math/rand"
	"slices"
	"testing"

	"gantry/api"
	"gantry/bits"
)

func sameLists(a, b [][]int) bool { return slices.EqualFunc(a, b, slices.Equal) }

// heldAgainstModel asks all four calls for one relation.
func heldAgainstModel(t *testing.T, n, most int, first [][]int, edges []api.Pair) {
	t.Helper()
	r := newRelation(n, edges)
	if got, e := bits.Closure(n, edges); e != api.OK || !slices.Equal(got, r.closed().pairs()) {
		t.Fatalf("Closure(%d, %v): %v, %v", n, edges, got, e)
	}
	if got, e := bits.Components(n, edges); e != api.OK || !sameLists(got, modelComponents(r)) {
		t.Fatalf("Components(%d, %v): %v, %v", n, edges, got, e)
	}
	list, cycle, e := bits.Order(n, edges)
	if want, may := modelOrder(r); may {
		if e != api.OK || !slices.Equal(list, want) || len(cycle) != 0 {
			t.Fatalf("Order(%d, %v): %v, %v, %v", n, edges, list, cycle, e)
		}
	} else if e != api.ErrCycle || len(list) != 0 || !slices.Equal(cycle, modelCycle(r)) {
		t.Fatalf("Order(%d, %v): %v, %v, %v: not the cycle %v", n, edges, list, cycle, e, modelCycle(r))
	}
	if got, e := bits.Digraph(n, most, first, edges); e != api.OK || !sameLists(got, modelDigraph(r, most, first)) {
		t.Fatalf("Digraph(%d, %d, %v, %v): %v, %v", n, most, first, edges, got, e)
	}
}

// P5.2: every relation over at most four numbers, with a number of its own that each has first.
func TestSmallRelations(t *testing.T) {
	for n := range 5 {
		first := make([][]int, n)
		for x := range first {
			first[x] = []int{n - 1 - x}
		}
		eachRelation(n, func(edges []api.Pair) {
			heldAgainstModel(t, n, n, first, edges)
		})
	}
}

// P5.2: many greater relations, from thin to thick; a pair may stand twice, and pairs in any order.
func TestGreaterRelations(t *testing.T) {
	r := rand.New(rand.NewSource(52))
	for range 6000 {
		n := 1 + r.Intn(9)
		most := r.Intn(70)
		heldAgainstModel(t, n, most, anyFirst(r, n, most), anyRelation(r, n, r.Intn(2*n+1)))
	}
	for range 100 { // more than one word, no cycle: all edges go down by some other numbering
		n := 60 + r.Intn(20)
		turn := r.Perm(n)
		edges := anyRelation(r, n, r.Intn(3*n))
		for i, p := range edges {
			if p.A == p.B {
				p = api.Pair{A: 0, B: 1}
			}
			edges[i] = api.Pair{A: turn[max(p.A, p.B)], B: turn[min(p.A, p.B)]}
		}
		heldAgainstModel(t, n, 130, anyFirst(r, n, 130), edges)
	}
}

func FuzzRelations(f *testing.F) {
	f.Add(byte(3), []byte{0, 1, 1, 2, 2, 0, 2, 2})
	f.Add(byte(7), []byte{0, 3, 3, 5, 5, 0, 1, 2, 2, 6, 6, 1})
	f.Fuzz(func(t *testing.T, size byte, b []byte) {
		n := int(size % 8)
		var edges []api.Pair
		for i := 0; n > 0 && i+1 < len(b); i += 2 {
			edges = append(edges, api.Pair{A: int(b[i]) % n, B: int(b[i+1]) % n})
		}
		first := make([][]int, n)
		for x := range first {
			first[x] = []int{x}
		}
		heldAgainstModel(t, n, n, first, edges)
	})
}

// relationErrors answers what all four calls make of a relation that may not be; beside an error they answer nothing.
func relationErrors(t *testing.T, n int, edges []api.Pair) []api.Errno {
	t.Helper()
	c, e1 := bits.Closure(n, edges)
	k, e2 := bits.Components(n, edges)
	o, y, e3 := bits.Order(n, edges)
	// The other arguments may not be, either: the relation's error goes ahead.
	d, e4 := bits.Digraph(n, -1, [][]int{{-1}}, edges)
	if len(c)+len(k)+len(o)+len(y)+len(d) != 0 {
		t.Error("beside an error:", c, k, o, y, d)
	}
	return []api.Errno{e1, e2, e3, e4}
}

// P5.2: a size that may not be goes ahead of a pair that may not be.
func TestRelationErrors(t *testing.T) {
	for _, n := range []int{-1, 4097, math.MinInt, math.MaxInt} {
		for _, edges := range [][]api.Pair{nil, {{A: 0, B: 0}}, {{A: -1, B: 9}}} {
			for i, e := range relationErrors(t, n, edges) {
				if e != api.ErrRange {
					t.Errorf("call %d of %d, %v: %v", i, n, edges, e)
				}
			}
		}
	}
	for _, n := range []int{0, 1, 2, 64, 4096} {
		for _, wrong := range []int{-1, n, n + 1, math.MinInt, math.MaxInt} {
			lists := [][]api.Pair{{{A: wrong, B: 0}}, {{A: 0, B: wrong}}, {{A: wrong, B: wrong}}}
			if n > 0 { // behind right ones, that make a cycle
				lists = append(lists, []api.Pair{{A: 0, B: 0}, {A: n - 1, B: 0}, {A: n - 1, B: wrong}})
			}
			for _, edges := range lists {
				for i, e := range relationErrors(t, n, edges) {
					if e != api.ErrRelation {
						t.Errorf("call %d of %d, %v: %v", i, n, edges, e)
					}
				}
			}
		}
	}
}

// P5.2: Digraph's own errors, in their order.
func TestDigraphErrors(t *testing.T) {
	edge := []api.Pair{{A: 0, B: 1}}
	wrong := []struct {
		n, most int
		first   [][]int
		want    api.Errno
	}{
		{2, -1, [][]int{{0}}, api.ErrRange},
		{2, 4097, [][]int{{0}, {0}}, api.ErrRange},
		{2, math.MinInt, nil, api.ErrRange},
		{2, math.MaxInt, nil, api.ErrRange},
		{2, 5, nil, api.ErrCount},
		{2, 5, [][]int{{9}}, api.ErrCount},
		{2, 5, [][]int{{9}, {-1}, {}}, api.ErrCount},
		{2, 5, [][]int{{0}, {5}}, api.ErrRange},
		{2, 5, [][]int{{0, 4, -1}, {4}}, api.ErrRange},
		{2, 5, [][]int{{math.MinInt}, {4}}, api.ErrRange},
		{2, 5, [][]int{{4}, {3, math.MaxInt, 3}}, api.ErrRange},
		{2, 0, [][]int{{}, {0}}, api.ErrRange},
		{2, 64, [][]int{{63}, {64}}, api.ErrRange},
		{2, 4096, [][]int{{4095}, {4096}}, api.ErrRange},
	}
	for _, w := range wrong {
		if got, e := bits.Digraph(w.n, w.most, w.first, edge); e != w.want || len(got) != 0 {
			t.Errorf("Digraph(%d, %d, %v): %v, %v", w.n, w.most, w.first, got, e)
		}
	}
	if got, e := bits.Digraph(2, 0, [][]int{nil, {}}, edge); e != api.OK || !sameLists(got, [][]int{nil, nil}) {
		t.Errorf("Digraph of nothing: %v, %v", got, e)
	}
	if got, e := bits.Digraph(2, 4096, [][]int{{4095}, {0}}, edge); e != api.OK || !sameLists(got, [][]int{{0, 4095}, {0}}) {
		t.Errorf("Digraph of 4096: %v, %v", got, e)
	}
}

// P5.2: the chapter's examples, and what of its order is easily missed.
func TestOrdersOfAnswers(t *testing.T) {
	pairs := func(numbers ...int) []api.Pair {
		var l []api.Pair
		for i := 0; i+1 < len(numbers); i += 2 {
			l = append(l, api.Pair{A: numbers[i], B: numbers[i+1]})
		}
		return l
	}
	cycles := []struct {
		n     int
		edges []api.Pair
		want  []int
	}{
		{2, pairs(0, 1, 1, 0), []int{0, 1}},
		{3, pairs(0, 1, 1, 0, 2, 2), []int{2}},                                             // the shortest, though 0 is on another
		{5, pairs(3, 4, 4, 3, 1, 2, 2, 1), []int{1, 2}},                                    // of two the one with the lower beginning
		{4, pairs(0, 3, 3, 0, 0, 2, 2, 0), []int{0, 2}},                                    // of two with one beginning the lower second
		{6, pairs(0, 1, 1, 5, 5, 0, 0, 2, 2, 3, 3, 0), []int{0, 1, 5}},                     // the second number goes ahead of the third
		{5, pairs(0, 1, 1, 4, 4, 0, 1, 3, 3, 0), []int{0, 1, 3}},                           // the third one decides
		{6, pairs(0, 1, 1, 2, 2, 3, 3, 0, 5, 4, 4, 5), []int{4, 5}},                        // begun with its lowest number
		{6, pairs(0, 5, 5, 4, 4, 0, 1, 2, 2, 3, 3, 1), []int{0, 5, 4}},                     // the first number goes ahead of all others
		{4, pairs(0, 1, 1, 2, 2, 1, 2, 3, 3, 0), []int{1, 2}},                              // inside a longer one
		{7, pairs(0, 2, 2, 6, 6, 0, 1, 2, 6, 1, 0, 3, 3, 4, 4, 0), []int{0, 2, 6}},         // two that share an edge
		{4, pairs(3, 2, 2, 1, 1, 0, 0, 3, 3, 2, 2, 1), []int{0, 3, 2, 1}},                  // all numbers, some pairs twice
		{66, pairs(63, 64, 64, 65, 65, 63, 0, 63, 0, 64, 1, 0), []int{63, 64, 65}},         // behind what leads to it, over a word's end
		{66, pairs(64, 65, 65, 64, 63, 64, 65, 63, 62, 62, 63, 63, 64, 64), []int{62}},     // some of length one
		{66, pairs(64, 65, 65, 64, 63, 64, 65, 63, 1, 2, 2, 3, 3, 1, 0, 1), []int{64, 65}}, // shorter, though found late
	}
	for _, c := range cycles {
		if list, got, e := bits.Order(c.n, c.edges); e != api.ErrCycle || len(list) != 0 || !slices.Equal(got, c.want) {
			t.Errorf("Order(%d, %v): %v, %v, %v", c.n, c.edges, list, got, e)
		}
	}
	if l, y, e := bits.Order(5, pairs(0, 4, 4, 2)); e != api.OK || len(y) != 0 || !slices.Equal(l, []int{1, 2, 3, 4, 0}) {
		t.Error("Order, the lowest that may stand next:", l, y, e)
	}
	if k, e := bits.Components(6, pairs(0, 5, 5, 0, 0, 1, 4, 2, 2, 4)); e != api.OK || !sameLists(k, [][]int{{1}, {0, 5}, {2, 4}, {3}}) {
		t.Error("Components, the lowest that may stand next:", k, e)
	}
	if c, e := bits.Closure(3, pairs(2, 1, 1, 2, 2, 1)); e != api.OK || !slices.Equal(c, pairs(1, 1, 1, 2, 2, 1, 2, 2)) {
		t.Error("Closure, each once, round a cycle:", c, e)
	}
}

// P5.4: over every relation of at most three numbers: the closure is closed, and within every other closed relation over the edges; a component's numbers have both pairs.
func TestClosureIsLeast(t *testing.T) {
	for n := range 4 {
		var closed []relation
		eachRelation(n, func(edges []api.Pair) {
			if r := newRelation(n, edges); slices.Equal(r.closed().pairs(), r.pairs()) {
				closed = append(closed, r)
			}
		})
		eachRelation(n, func(edges []api.Pair) {
			c, _ := bits.Closure(n, edges)
			if again, e := bits.Closure(n, c); e != api.OK || !slices.Equal(again, c) {
				t.Fatalf("the closure of %v is not closed: %v", edges, c)
			}
			over := 0
			for _, r := range closed {
				if !hasAll(r, edges) {
					continue
				}
				over++
				if !hasAll(r, c) {
					t.Fatalf("the closure of %v is not within %v", edges, r.pairs())
				}
			}
			if over == 0 || !hasAll(newRelation(n, c), edges) {
				t.Fatalf("the closure of %v lacks edges: %v", edges, c)
			}
			oneComponent(t, n, edges, newRelation(n, c))
		})
	}
}

func hasAll(r relation, pairs []api.Pair) bool {
	for _, p := range pairs {
		if !r[p.A][p.B] {
			return false
		}
	}
	return true
}

func oneComponent(t *testing.T, n int, edges []api.Pair, closed relation) {
	t.Helper()
	classes, _ := bits.Components(n, edges)
	home := make([]int, n)
	count := 0
	for i, class := range classes {
		for _, x := range class {
			home[x] = i
			count++
		}
	}
	if count != n {
		t.Fatalf("components of %v: %v", edges, classes)
	}
	for x := range n {
		for y := range n {
			if (home[x] == home[y]) != (x == y || closed[x][y] && closed[y][x]) {
				t.Fatalf("components of %v: %v: %d and %d", edges, classes, x, y)
			}
		}
	}
}

// eachOrder goes over all lists of 0 below n, each number once.
func eachOrder(n int, do func([]int)) {
	var grow func(l []int)
	grow = func(l []int) {
		if len(l) == n {
			do(l)
		}
		for x := range n {
			if !slices.Contains(l, x) {
				grow(append(slices.Clone(l), x))
			}
		}
	}
	grow(nil)
}

func goesBack(list []int, edges []api.Pair) bool {
	for _, p := range edges {
		if slices.Index(list, p.B) >= slices.Index(list, p.A) {
			return false
		}
	}
	return true
}

// P5.5: over every relation of at most three numbers: a list that does it, and no cycle; or a cycle that is there, and no list does it.
func TestOrderOrCycle(t *testing.T) {
	lists, cycles := 0, 0
	for n := range 4 {
		eachRelation(n, func(edges []api.Pair) {
			list, cycle, e := bits.Order(n, edges)
			if e == api.OK {
				lists++
				if len(list) != n || len(cycle) != 0 || !goesBack(list, edges) {
					t.Fatalf("Order(%d, %v): %v, %v", n, edges, list, cycle)
				}
				return
			}
			cycles++
			if len(cycle) == 0 || len(list) != 0 {
				t.Fatalf("Order(%d, %v): %v, %v, %v", n, edges, list, cycle, e)
			}
			for i, x := range cycle {
				if !slices.Contains(edges, api.Pair{A: x, B: cycle[(i+1)%len(cycle)]}) {
					t.Fatalf("Order(%d, %v): no cycle: %v", n, edges, cycle)
				}
			}
			eachOrder(n, func(l []int) {
				if goesBack(l, edges) {
					t.Fatalf("Order(%d, %v): %v does it", n, edges, l)
				}
			})
		})
	}
	if lists == 0 || cycles == 0 {
		t.Error("only one kind:", lists, cycles)
	}
}

// P5.6: over every relation of three numbers and all that they may have first of two: a solution, and within every other; sets are masks here.
func TestDigraphIsLeast(t *testing.T) {
	n, most := 3, 2
	part := func(sets, x int) int { return sets >> (most * x) & 3 }
	solves := func(sets, first int, edges []api.Pair) bool {
		for x := range n {
			all := part(first, x)
			for _, p := range edges {
				if p.A == x {
					all |= part(sets, p.B)
				}
			}
			if part(sets, x) != all {
				return false
			}
		}
		return true
	}
	eachRelation(n, func(edges []api.Pair) {
		for first := range 64 {
			lists := make([][]int, n)
			for x := range lists {
				lists[x] = [][]int{{}, {0}, {1}, {1, 0}}[part(first, x)]
			}
			got, e := bits.Digraph(n, most, lists, edges)
			if e != api.OK || len(got) != n {
				t.Fatalf("Digraph(%v, %v): %v, %v", lists, edges, got, e)
			}
			sets := 0
			for x, l := range got {
				for _, v := range l {
					sets |= 1 << (most*x + v)
				}
			}
			if !solves(sets, first, edges) {
				t.Fatalf("Digraph(%v, %v): no solution: %v", lists, edges, got)
			}
			for other := range 64 {
				if sets&^other != 0 && solves(other, first, edges) {
					t.Fatalf("Digraph(%v, %v): not the least: %v", lists, edges, got)
				}
			}
		}
	})
}

// P5.2: as many numbers as there may be, in one path and in one ring.
func TestGreatestRelations(t *testing.T) {
	n := api.MaxBits
	var path []api.Pair
	up, down := make([]int, n), make([]int, n)
	first := make([][]int, n)
	for x := range n {
		up[x], down[x] = x, n-1-x
		first[x] = []int{x}
		if x+1 < n {
			path = append(path, api.Pair{A: x, B: x + 1})
		}
	}
	if l, y, e := bits.Order(n, path); e != api.OK || len(y) != 0 || !slices.Equal(l, down) {
		t.Error("Order of a path:", len(l), len(y), e)
	}
	if k, e := bits.Components(n, path); e != api.OK || !slices.Equal(slices.Concat(k...), down) {
		t.Error("Components of a path:", len(k), e)
	}
	d, e := bits.Digraph(n, n, first, path)
	for x := range d {
		if !slices.Equal(d[x], up[x:]) {
			t.Fatal("Digraph of a path:", x, len(d[x]))
		}
	}
	if e != api.OK || len(d) != n {
		t.Error("Digraph of a path:", e)
	}
	ring := append(path, api.Pair{A: n - 1, B: 0})
	if l, y, e := bits.Order(n, ring); e != api.ErrCycle || len(l) != 0 || !slices.Equal(y, up) {
		t.Error("Order of a ring:", len(l), len(y), e)
	}
	if k, e := bits.Components(n, ring); e != api.OK || len(k) != 1 || !slices.Equal(k[0], up) {
		t.Error("Components of a ring:", len(k), e)
	}
	c, e := bits.Closure(n, ring)
	for i, p := range c {
		if p.A != i/n || p.B != i%n {
			t.Fatal("Closure of a ring:", i, p)
		}
	}
	if e != api.OK || len(c) != n*n {
		t.Error("Closure of a ring:", len(c), e)
	}
}

// spare is a list with room behind it that tells if somebody wrote there.
func spare[T any](l []T, mark T) []T {
	return append(slices.Clone(l), mark, mark)[:len(l)]
}

// P5.7: no call changes what is handed in, spare room too, or keeps it: what was answered stays when it is changed.
func TestArgumentsAreLeft(t *testing.T) {
	mark := api.Pair{A: -7, B: -7}
	for _, plain := range [][]api.Pair{
		{{A: 2, B: 1}, {A: 0, B: 2}, {A: 2, B: 1}},
		{{A: 2, B: 1}, {A: 1, B: 2}, {A: 0, B: 1}},
	} {
		edges := spare(plain, mark)
		first := spare([][]int{spare([]int{4, 1}, -7), spare([]int{3, 3}, -7), spare([]int{0}, -7)}, []int{-7})
		c, _ := bits.Closure(3, edges)
		k, _ := bits.Components(3, edges)
		o, y, _ := bits.Order(3, edges)
		d, _ := bits.Digraph(3, 5, first, edges)
		if !slices.Equal(edges, plain) || edges[:4][3] != mark || !sameLists(first[:4], [][]int{{4, 1}, {3, 3}, {0}, {-7}}) || first[0][:3][2] != -7 {
			t.Fatal("arguments were changed:", edges[:4], first[:4])
		}
		c0, k0, o0, y0, d0 := slices.Clone(c), cloned(k), slices.Clone(o), slices.Clone(y), cloned(d)
		for i := range edges {
			edges[i] = mark
		}
		for _, l := range first {
			clear(l)
		}
		if !slices.Equal(c, c0) || !sameLists(k, k0) || !slices.Equal(o, o0) || !slices.Equal(y, y0) || !sameLists(d, d0) {
			t.Error("arguments were kept")
		}
	}
}

func cloned(lists [][]int) [][]int {
	all := make([][]int, len(lists))
	for i, l := range lists {
		all[i] = slices.Clone(l)
	}
	return all
}

// P5.7: no two lists of one answer share memory, spare room too; numbers of one component have lists of their own.
func TestAnswersShareNothing(t *testing.T) {
	r := rand.New(rand.NewSource(57))
	for range 300 {
		n := 1 + r.Intn(9)
		edges, first := anyRelation(r, n, r.Intn(2*n)), anyFirst(r, n, 9)
		k, _ := bits.Components(n, edges)
		d, _ := bits.Digraph(n, 9, first, edges)
		for _, lists := range [][][]int{k, d} {
			before := cloned(lists)
			for i, l := range lists {
				for at := range l[:cap(l)] {
					l[:cap(l)][at] = -7
				}
				if !sameLists(lists[i+1:], before[i+1:]) {
					t.Fatalf("list %d shares memory: %v, %v", i, before, lists)
				}
			}
		}
		again, _ := bits.Digraph(n, 9, first, edges)
		if !sameLists(again, modelDigraph(newRelation(n, edges), 9, first)) {
			t.Fatal("an answer's change is seen in the next:", again)
		}
	}
}
