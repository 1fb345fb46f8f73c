package earley

import (
	"cmp"
	"iter"
	"math/bits"
	"slices"
)

// blockSize is how many places stand in a block.
const blockSize = 64

// spot is an item and a block of places.
type spot struct {
	item, block int
}

// mark is a spot, and those of its places that are meant, a bit each: an ambiguous text has very many, which are handled a block at one time.
type mark struct {
	spot
	places uint64
}

func markOf(item, place int) mark {
	return mark{spot{item, place / blockSize}, 1 << (place % blockSize)}
}

// with is the same places of another item.
func (m mark) with(item int) mark {
	m.item = item
	return m
}

// all hands out the places, rising.
func (m mark) all(yield func(int) bool) {
	for places := m.places; places != 0; places &= places - 1 {
		if !yield(m.block*blockSize + bits.TrailingZeros64(places)) {
			return
		}
	}
}

// marks rise by their spots.
type marks []mark

func compareSpots(a, b spot) int {
	return cmp.Or(cmp.Compare(a.item, b.item), cmp.Compare(a.block, b.block))
}

func (l marks) sort() {
	slices.SortFunc(l, func(a, b mark) int { return compareSpots(a.spot, b.spot) })
}

// below is how many marks stand ahead of a spot.
func (l marks) below(s spot) int {
	n, _ := slices.BinarySearchFunc(l, s, func(m mark, s spot) int { return compareSpots(m.spot, s) })
	return n
}

// within is the marks of some items.
func (l marks) within(s span) marks {
	return l[l.below(spot{item: s.from}):l.below(spot{item: s.to})]
}

// of is the marks of one item.
func (l marks) of(item int) marks { return l.within(span{item, item + 1}) }

func (l marks) has(item, place int) bool {
	m := markOf(item, place)
	n := l.below(m.spot)
	return n < len(l) && l[n].spot == m.spot && l[n].places&m.places != 0
}

// count is how many places all marks have together.
func (l marks) count() int {
	n := 0
	for _, m := range l {
		n += bits.OnesCount64(m.places)
	}
	return n
}

// from is the marks, of one item's, from a block on.
func (l marks) from(block int) marks {
	if len(l) == 0 {
		return l
	}
	return l[l.below(spot{l[0].item, block}):]
}

// common hands out what one item's marks and another's have in common, by blocks, from a block on. It takes no more steps than the fewer of the two ask for.
func common(a, b marks, block int) iter.Seq2[int, uint64] {
	return func(yield func(int, uint64) bool) {
		for a, b := a.from(block), b.from(block); len(a) > 0 && len(b) > 0; {
			switch x, y := a[0], b[0]; {
			case x.block < y.block:
				a = a.from(y.block)
			case y.block < x.block:
				b = b.from(x.block)
			default:
				if places := x.places & y.places; places != 0 && !yield(x.block, places) {
					return
				}
				a, b = a[1:], b[1:]
			}
		}
	}
}

// leastCommon is the lowest place, not below another, that both have; -1, if there is none.
func leastCommon(a, b marks, place int) int {
	here := place / blockSize
	for block, places := range common(a, b, here) {
		if block == here {
			places &= ^uint64(0) << (place % blockSize)
		}
		if places != 0 {
			return block*blockSize + bits.TrailingZeros64(places)
		}
	}
	return -1
}
