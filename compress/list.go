package compress

import "math/bits"

// wordSize is how many places a word of bits tells of.
const wordSize = 64

// list is the one long list: whose entry stands at each place, and its value.
type list struct {
	owner []int
	value []int
	// taken has a bit for each place, so that many bases are asked at one time.
	taken []uint64
}

// lay lays pieces over one another, and answers the list and the base of each piece.
func lay(pieces []piece) (list, []int) {
	var l list
	bases := make([]int, len(pieces))
	for _, owner := range layingOrder(pieces) {
		p := pieces[owner]
		bases[owner] = l.leastBase(p)
		for _, e := range p {
			l.put(bases[owner]+e.offset, owner, e.value)
		}
	}
	return l, bases
}

// leastBase answers the least base at which none of a piece's places is taken. There is one, behind the list's end if nowhere else.
func (l *list) leastBase(p piece) int {
	for from := 0; ; from += wordSize {
		if free := ^l.blocked(p, from); free != 0 {
			return from + bits.TrailingZeros64(free)
		}
	}
}

// blocked tells, a bit a base, at which of the bases from a place on some place of a piece is taken.
func (l *list) blocked(p piece, from int) uint64 {
	var b uint64
	for _, e := range p {
		b |= l.takenFrom(from + e.offset)
		if b == ^uint64(0) {
			break
		}
	}
	return b
}

// takenFrom tells, a bit a place, which of the places from one on are taken.
func (l *list) takenFrom(place int) uint64 {
	word, bit := place/wordSize, place%wordSize
	// Where bit is 0, the shift by a whole word leaves nothing of the next one.
	return l.word(word)>>bit | l.word(word+1)<<(wordSize-bit)
}

func (l *list) word(n int) uint64 {
	if n < len(l.taken) {
		return l.taken[n]
	}
	return 0
}

// put lays one entry down, and makes the list so long that it has the place.
func (l *list) put(place, owner, value int) {
	for len(l.owner) <= place {
		l.owner = append(l.owner, noOwner)
		l.value = append(l.value, noValue)
	}
	l.owner[place], l.value[place] = owner, value
	word := place / wordSize
	for len(l.taken) <= word {
		l.taken = append(l.taken, 0)
	}
	l.taken[word] |= 1 << (place % wordSize)
}
