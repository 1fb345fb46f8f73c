package first

// set is numbers from 0 to 127: as many terminals as there may be need the one word, the end marker behind them the other.
type set [2]uint64

const wordBits = 64

func (s *set) add(n int) { s[n/wordBits] |= 1 << (n % wordBits) }

func (s set) has(n int) bool { return s[n/wordBits]>>(n%wordBits)&1 == 1 }

func (s set) with(other set) set {
	for i := range len(s) {
		s[i] |= other[i]
	}
	return s
}

func (s set) within(other set) bool { return s.with(other) == other }

// list tells the numbers, rising.
func (s set) list() []int {
	var l []int
	for n := range len(s) * wordBits {
		if s.has(n) {
			l = append(l, n)
		}
	}
	return l
}

// setOf lays numbers together, in any order, a number as often as it likes.
func setOf(l []int) set {
	var s set
	for _, n := range l {
		s.add(n)
	}
	return s
}

func setsOf(lists [][]int) []set {
	sets := make([]set, len(lists))
	for n := range len(lists) {
		sets[n] = setOf(lists[n])
	}
	return sets
}

func listsOf(sets []set) [][]int {
	lists := make([][]int, len(sets))
	for n := range len(sets) {
		lists[n] = sets[n].list()
	}
	return lists
}
