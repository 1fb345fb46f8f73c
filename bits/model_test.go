package bits_test

import (
	"math/rand"
	"slices"

	"gantry/api"
)

// relation is pairs over 0 below n, as bools by rows.
type relation [][]bool

func newRelation(n int, edges []api.Pair) relation {
	r := make(relation, n)
	for x := range r {
		r[x] = make([]bool, n)
	}
	for _, p := range edges {
		r[p.A][p.B] = true
	}
	return r
}

// pairs lists a relation, rising by A, then B.
func (r relation) pairs() []api.Pair {
	var l []api.Pair
	for x, row := range r {
		for y, in := range row {
			if in {
				l = append(l, api.Pair{A: x, B: y})
			}
		}
	}
	return l
}

// closed is Warshall's closure.
func (r relation) closed() relation {
	c := newRelation(len(r), r.pairs())
	for by := range c {
		for x := range c {
			for y := range c {
				c[x][y] = c[x][y] || c[x][by] && c[by][y]
			}
		}
	}
	return c
}

// modelComponents takes class after class: of those that reach only what stands already the one with the lowest number.
func modelComponents(r relation) [][]int {
	c := r.closed()
	class := func(x int) []int {
		var l []int
		for y := range c {
			if x == y || c[x][y] && c[y][x] {
				l = append(l, y)
			}
		}
		return l
	}
	stands := make([]bool, len(c))
	mayStand := func(l []int) bool {
		for _, x := range l {
			for y := range c {
				if c[x][y] && !stands[y] && !slices.Contains(l, y) {
					return false
				}
			}
		}
		return true
	}
	var all [][]int
	for x := 0; x < len(c); x++ {
		if l := class(x); !stands[x] && mayStand(l) {
			for _, y := range l {
				stands[y] = true
			}
			all = append(all, l)
			x = -1
		}
	}
	return all
}

// modelOrder is the list, or none if there is a cycle.
func modelOrder(r relation) ([]int, bool) {
	var l []int
	for x := 0; x < len(r); x++ {
		if slices.Contains(l, x) {
			continue
		}
		ready := true
		for y, in := range r[x] {
			ready = ready && (!in || slices.Contains(l, y))
		}
		if ready {
			l = append(l, x)
			x = -1
		}
	}
	return l, len(l) == len(r)
}

// modelCycle goes over all cycles, each begun with its lowest number, and keeps the shortest, of these the least.
func modelCycle(r relation) []int {
	var best []int
	var grow func(path []int)
	grow = func(path []int) {
		last := path[len(path)-1]
		if r[last][path[0]] {
			if best == nil || len(path) < len(best) || len(path) == len(best) && slices.Compare(path, best) < 0 {
				best = slices.Clone(path)
			}
		}
		for y := path[0] + 1; y < len(r); y++ {
			if r[last][y] && !slices.Contains(path, y) {
				grow(append(slices.Clone(path), y))
			}
		}
	}
	for x := range r {
		grow([]int{x})
	}
	return best
}

// modelDigraph asks of every number whether one that has it first is reached.
func modelDigraph(r relation, most int, first [][]int) [][]int {
	c := r.closed()
	all := make([][]int, len(r))
	for x := range c {
		for v := range most {
			has := slices.Contains(first[x], v)
			for y := range c {
				has = has || c[x][y] && slices.Contains(first[y], v)
			}
			if has {
				all[x] = append(all[x], v)
			}
		}
	}
	return all
}

// eachRelation goes over all relations over 0 below n.
func eachRelation(n int, do func(edges []api.Pair)) {
	for mask := range 1 << (n * n) {
		var edges []api.Pair
		for i := range n * n {
			if mask>>i&1 == 1 {
				edges = append(edges, api.Pair{A: i / n, B: i % n})
			}
		}
		do(edges)
	}
}

// anyRelation is some pairs over 0 below n, in any order, some of them twice.
func anyRelation(r *rand.Rand, n, count int) []api.Pair {
	var edges []api.Pair
	for range count {
		p := api.Pair{A: r.Intn(n), B: r.Intn(n)}
		edges = append(edges, p)
		if r.Intn(4) == 0 {
			edges = append(edges, p)
		}
	}
	r.Shuffle(len(edges), func(i, j int) { edges[i], edges[j] = edges[j], edges[i] })
	return edges
}

// anyFirst is a list of numbers below most for each of n, not rising, some of them twice.
func anyFirst(r *rand.Rand, n, most int) [][]int {
	first := make([][]int, n)
	for x := range first {
		for range r.Intn(4) {
			if most > 0 {
				first[x] = append(first[x], r.Intn(most))
			}
		}
	}
	return first
}
