package bits_test

import (
	"math"
	"math/rand"
	"slices"
	"testing"

	"gantry/api"
	"gantry/bits"
)

// plain is a set by its words: numbers below a size.
type plain struct {
	made bool
	size int
	in   map[int]struct{}
}

func newPlain(size int) plain { return plain{made: true, size: size, in: map[int]struct{}{}} }

func (p plain) has(x int) bool {
	_, in := p.in[x]
	return in
}

func (p plain) add(x int) bool {
	if x < 0 || x >= p.size || p.has(x) {
		return false
	}
	p.in[x] = struct{}{}
	return true
}

func (p plain) remove(x int) bool {
	was := p.has(x)
	delete(p.in, x)
	return was
}

func (p plain) list() []int {
	var l []int
	for x := range p.size {
		if p.has(x) {
			l = append(l, x)
		}
	}
	return l
}

// union, meet and minus take the other's list, so that a set may be held against itself.
func (p plain) union(other []int) bool {
	changed := false
	for _, x := range other {
		changed = p.add(x) || changed
	}
	return changed
}

func (p plain) meet(other []int) bool {
	changed := false
	for _, x := range p.list() {
		if !slices.Contains(other, x) {
			changed = p.remove(x) || changed
		}
	}
	return changed
}

func (p plain) minus(other []int) bool {
	changed := false
	for _, x := range other {
		changed = p.remove(x) || changed
	}
	return changed
}

func within(a, b []int) bool {
	for _, x := range a {
		if !slices.Contains(b, x) {
			return false
		}
	}
	return true
}

// setOf makes a set of a size with those of the numbers that are below it.
func setOf(t testing.TB, size int, numbers ...int) *bits.Set {
	t.Helper()
	s, e := bits.NewSet(size)
	if e != api.OK || s == nil {
		t.Fatalf("NewSet(%d): %v", size, e)
	}
	for _, x := range numbers {
		s.Add(x)
	}
	return s
}

// holds tells whether all that a set may be asked fits the plain one.
func holds(s *bits.Set, p plain) bool {
	l := s.List()
	if s.Size() != p.size || s.Count() != len(p.in) || !slices.Equal(l, p.list()) {
		return false
	}
	for x := -1; x <= p.size+70; x++ {
		if s.Has(x) != p.has(x) {
			return false
		}
	}
	return true
}

var sizes = []int{0, 1, 2, 63, 64, 65, 127, 128, 129, 4095, 4096}

// P5.1: a set may have the sizes from 0 to MaxBits, and is empty at first.
func TestNewSet(t *testing.T) {
	for _, n := range sizes {
		if s := setOf(t, n); !holds(s, newPlain(n)) {
			t.Errorf("NewSet(%d): size %d, %v", n, s.Size(), s.List())
		}
	}
	for _, n := range []int{-1, 4097, math.MinInt, math.MaxInt} {
		if s, e := bits.NewSet(n); s != nil || e != api.ErrRange {
			t.Errorf("NewSet(%d): %v, %v", n, s, e)
		}
	}
}

// P5.1: Add and Remove tell whether they changed the set; a number out of range changes nothing.
func TestAddAndRemove(t *testing.T) {
	for _, n := range sizes {
		s, p := setOf(t, n), newPlain(n)
		numbers := []int{math.MinInt, -4096, -64, -1, 0, 1, 31, 32, 62, 63, 64, 65, n - 65, n - 64, n - 1, n, n + 1, n + 63, n + 64, 4096, 1 << 32, math.MaxInt}
		for range 2 {
			for _, x := range numbers {
				if got, want := s.Add(x), p.add(x); got != want || !holds(s, p) {
					t.Fatalf("size %d: Add(%d): %v, then %v", n, x, got, s.List())
				}
				if s.Has(x) != p.has(x) {
					t.Fatalf("size %d: Has(%d): %v", n, x, s.Has(x))
				}
			}
		}
		for range 2 {
			for _, x := range numbers {
				if got, want := s.Remove(x), p.remove(x); got != want || !holds(s, p) {
					t.Fatalf("size %d: Remove(%d): %v, then %v", n, x, got, s.List())
				}
			}
		}
	}
}

// P5.1: every two sets of three sizes, with numbers on both sides of a word's end.
func TestTwoSets(t *testing.T) {
	numbers := []int{0, 62, 63, 64, 65}
	var all [][]int
	for mask := range 1 << len(numbers) {
		var l []int
		for i, x := range numbers {
			if mask>>i&1 == 1 {
				l = append(l, x)
			}
		}
		all = append(all, l)
	}
	for _, own := range []int{0, 63, 64, 65, 66, 200} {
		for _, other := range []int{0, 63, 64, 65, 66, 200} {
			for _, a := range all {
				for _, b := range all {
					twoSets(t, setOf(t, own, a...), setOf(t, other, b...))
				}
			}
		}
	}
}

func twoSets(t *testing.T, s, other *bits.Set) {
	t.Helper()
	a, b := s.List(), other.List()
	if got, want := s.Same(other), slices.Equal(a, b); got != want {
		t.Fatalf("Same of %v (%d) and %v (%d): %v", a, s.Size(), b, other.Size(), got)
	}
	if got, want := s.Within(other), within(a, b); got != want {
		t.Fatalf("Within of %v (%d) and %v (%d): %v", a, s.Size(), b, other.Size(), got)
	}
	ways := []struct {
		name  string
		do    func(s, t *bits.Set) bool
		model func(p plain, other []int) bool
	}{
		{"Union", (*bits.Set).Union, plain.union},
		{"Meet", (*bits.Set).Meet, plain.meet},
		{"Minus", (*bits.Set).Minus, plain.minus},
	}
	for _, way := range ways {
		c, p := s.Copy(), newPlain(s.Size())
		p.union(a)
		got, want := way.do(c, other), way.model(p, b)
		if got != want || !slices.Equal(c.List(), p.list()) || c.Size() != s.Size() || c.Count() != len(p.in) {
			t.Fatalf("%s of %v (%d) and %v (%d): %v, then %v", way.name, a, s.Size(), b, other.Size(), got, c.List())
		}
		// Same looks at all words: what a change leaves beyond the size would be seen here.
		if !c.Same(setOf(t, 4096, p.list()...)) {
			t.Fatalf("%s of %v (%d) and %v (%d): not the same as its own list", way.name, a, s.Size(), b, other.Size())
		}
		if !slices.Equal(s.List(), a) || !slices.Equal(other.List(), b) {
			t.Fatalf("%s changed another set", way.name)
		}
	}
}

// P5.1: a set and itself.
func TestOneSetTwice(t *testing.T) {
	for _, n := range sizes {
		s := setOf(t, n, 0, 63, 64, n-1)
		p := newPlain(n)
		p.union([]int{0, 63, 64, n - 1})
		if s.Union(s) || s.Meet(s) || !s.Same(s) || !s.Within(s) || !holds(s, p) {
			t.Errorf("size %d: a set and itself: %v", n, s.List())
		}
		if s.Minus(s) != (n > 0) || s.Count() != 0 || s.Minus(s) {
			t.Errorf("size %d: Minus of itself: %v", n, s.List())
		}
	}
}

// P5.1 and P5.7: scripts over some sets, those that no call made among them; behind every step all of them are what their plain ones are, so none has a part of another.
func TestScripts(t *testing.T) {
	r := rand.New(rand.NewSource(5))
	for range 300 {
		sets := []*bits.Set{nil, new(bits.Set)}
		plains := []plain{{}, {}}
		for _, n := range []int{0, 1 + r.Intn(63), 64, 65 + r.Intn(64), 65 + r.Intn(64), 200} {
			sets, plains = append(sets, setOf(t, n)), append(plains, newPlain(n))
		}
		for step := range 60 {
			i, j, x := r.Intn(len(sets)), r.Intn(len(sets)), r.Intn(202)-1
			got, want := scriptStep(r.Intn(9), sets, plains, i, j, x)
			if got != want {
				t.Fatalf("step %d: %v of %v", step, got, want)
			}
			for k := range sets {
				if !holds(sets[k], plains[k]) {
					t.Fatalf("step %d: set %d is %v, not %v", step, k, sets[k].List(), plains[k].list())
				}
			}
		}
	}
}

func scriptStep(what int, sets []*bits.Set, plains []plain, i, j, x int) (bool, bool) {
	s, p, u, q := sets[i], plains[i], sets[j], plains[j].list()
	switch what {
	case 0, 1:
		return s.Add(x), p.add(x)
	case 2:
		return s.Remove(x), p.remove(x)
	case 3:
		return s.Union(u), p.union(q)
	case 4:
		return s.Meet(u), p.meet(q)
	case 5:
		return s.Minus(u), p.minus(q)
	case 6:
		return s.Same(u), slices.Equal(p.list(), q)
	case 7:
		return s.Within(u), within(p.list(), q)
	}
	// A copy stands in the place of the second set.
	c, d := s.Copy(), plain{}
	if p.made {
		d = newPlain(p.size)
		d.union(p.list())
	}
	sets[j], plains[j] = c, d
	return c != nil, d.made
}

// P5.1: nil, and a set that no call made, hold nothing, have size 0, change never; Copy of them is nil.
func TestUnmadeSets(t *testing.T) {
	var zero bits.Set
	for _, s := range []*bits.Set{nil, new(bits.Set), &zero} {
		full := setOf(t, 70, 0, 64, 69)
		for _, x := range []int{math.MinInt, -1, 0, 1, 63, 64, math.MaxInt} {
			if s.Add(x) || s.Has(x) || s.Remove(x) {
				t.Error("a set that no call made takes", x)
			}
		}
		for _, u := range []*bits.Set{nil, new(bits.Set), s, full, setOf(t, 0)} {
			if s.Union(u) || s.Meet(u) || s.Minus(u) || !s.Within(u) || s.Same(u) != (u.Count() == 0) {
				t.Error("a set that no call made, and another:", u.List())
			}
		}
		if s.Size() != 0 || s.Count() != 0 || len(s.List()) != 0 || s.Copy() != nil {
			t.Error("a set that no call made:", s.Size(), s.List(), s.Copy())
		}
		if full.Union(s) || full.Minus(s) || full.Within(s) || full.Same(s) || full.Count() != 3 {
			t.Error("a set, and one that no call made:", full.List())
		}
		if !full.Meet(s) || full.Count() != 0 || !full.Same(s) || !full.Within(s) {
			t.Error("Meet with a set that no call made:", full.List())
		}
	}
}

// P5.1 and P5.7: a copy is a set of its own, of the same size and numbers, even of size 0.
func TestCopy(t *testing.T) {
	for _, n := range sizes {
		s := setOf(t, n, 0, n/2, n-1)
		c := s.Copy()
		if c == nil || c == s || c.Size() != n || !c.Same(s) || !slices.Equal(c.List(), s.List()) {
			t.Fatalf("size %d: Copy: %v", n, c.List())
		}
		before := s.List()
		c.Minus(s)
		if !slices.Equal(s.List(), before) {
			t.Errorf("size %d: a copy's change is seen", n)
		}
		c = s.Copy()
		s.Minus(s)
		if !slices.Equal(c.List(), before) {
			t.Errorf("size %d: a change is seen in the copy", n)
		}
	}
}

// P5.7: what List answers is new memory, spare room and all.
func TestListIsNew(t *testing.T) {
	s := setOf(t, 130, 0, 1, 63, 64, 129)
	a, b := s.List(), s.List()
	for i := range a[:cap(a)] {
		a[:cap(a)][i] = 7
	}
	want := []int{0, 1, 63, 64, 129}
	if !slices.Equal(b, want) || !slices.Equal(s.List(), want) {
		t.Error("lists share memory:", b, s.List())
	}
}

// made answers what do makes of a copy of a and of b.
func made(do func(s, t *bits.Set) bool, a, b *bits.Set) *bits.Set {
	c := a.Copy()
	do(c, b)
	return c
}

// P5.3: the algebra of sets, over three sets of one size.
func TestAlgebra(t *testing.T) {
	r := rand.New(rand.NewSource(53))
	or, and, but := (*bits.Set).Union, (*bits.Set).Meet, (*bits.Set).Minus
	for range 2000 {
		n := r.Intn(140)
		all := setOf(t, n)
		var l [3]*bits.Set
		for i := range l {
			l[i] = setOf(t, n)
		}
		for x := range n {
			all.Add(x)
			for _, s := range l {
				if r.Intn(2) == 0 {
					s.Add(x)
				}
			}
		}
		a, b, c := l[0], l[1], l[2]
		laws := [][2]*bits.Set{
			{made(or, a, b), made(or, b, a)},
			{made(and, a, b), made(and, b, a)},
			{made(or, a, made(or, b, c)), made(or, made(or, a, b), c)},
			{made(and, a, made(and, b, c)), made(and, made(and, a, b), c)},
			{made(and, a, made(or, b, c)), made(or, made(and, a, b), made(and, a, c))},
			{made(or, a, made(and, b, c)), made(and, made(or, a, b), made(or, a, c))},
			{made(or, a, made(and, a, b)), a},
			{made(and, a, made(or, a, b)), a},
			{made(but, a, b), made(and, a, made(but, all, b))},
			{made(but, all, made(or, a, b)), made(and, made(but, all, a), made(but, all, b))},
			{made(but, all, made(but, all, a)), a},
			{made(or, made(and, a, b), made(but, a, b)), a},
		}
		for i, law := range laws {
			if !law[0].Same(law[1]) || !slices.Equal(law[0].List(), law[1].List()) {
				t.Fatalf("law %d of %v, %v, %v", i, a.List(), b.List(), c.List())
			}
		}
		if a.Count() != len(a.List()) || made(or, a, b).Count()+made(and, a, b).Count() != a.Count()+b.Count() {
			t.Fatal("Count of", a.List(), b.List())
		}
		sub := made(and, a, b)
		if !sub.Within(a) || !a.Within(made(or, a, b)) || (a.Within(sub) && sub.Within(a)) != a.Same(sub) {
			t.Fatal("Within of", a.List(), b.List())
		}
		if (a.Within(b) && b.Within(a)) != a.Same(b) || !slices.IsSorted(a.List()) {
			t.Fatal("Within both ways:", a.List(), b.List())
		}
	}
}
