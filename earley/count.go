package earley

import "gantry/api"

// many is where counts of trees stop.
const many = api.MaxTrees + 1

// part is an item over a part of the word: of a whole its trees count, of any other the rows of trees of what stands ahead of the dot.
type part struct {
	item, from, to int
}

// one is what there is once, whatever it is.
func one() part { return part{item: -1} }

// product is what there is once for each two trees, or rows of trees, of two parts.
type product struct {
	a, b part
}

// sum is a count in the making, and from where on what is still to be added is looked for: among productions, or among places.
type sum struct {
	part  part
	total int
	next  int
}

// counter counts the trees of parts that a chart has. No nonterminal may be circular: then no count hangs on itself.
type counter struct {
	*chart
	waiting []marks // by places: which items began there that wait for nonterminals, and where they stand
	counts  map[part]int
}

func counterOf(c *chart) *counter {
	return &counter{chart: c, waiting: c.turned(), counts: map[part]int{one(): 1}}
}

// count is how many trees, or rows of trees, a part has. Those that it hangs on, and are not known, are counted first.
func (c *counter) count(p part) int {
	for stack := []sum{{part: p}}; len(stack) > 0; {
		last := &stack[len(stack)-1]
		next, behind, more := c.product(last.part, last.next)
		if !more || last.total == many {
			c.counts[last.part] = last.total
			stack = stack[:len(stack)-1]
			continue
		}
		if unknown, stops := c.unknown(next); stops {
			stack = append(stack, sum{part: unknown})
			continue
		}
		last.total = min(last.total+c.counts[next.a]*c.counts[next.b], many)
		last.next = behind
	}
	return c.counts[p]
}

// unknown is what of a product is not counted yet.
func (c *counter) unknown(p product) (part, bool) {
	if _, known := c.counts[p.a]; !known {
		return p.a, true
	}
	_, known := c.counts[p.b]
	return p.b, !known
}

// product is the next one of those that a part has, and where the ones behind it are looked for: of a whole one for each production, of a row one for each place where its last tree may begin.
func (c *counter) product(p part, next int) (product, int, bool) {
	it := c.items[p.item]
	if it.dot == wholeDot {
		i := c.rule(it.left, next, p.from, p.to)
		if i < 0 {
			return product{}, 0, false
		}
		end := c.endOf(c.rules[it.left][i])
		return product{c.row(end, p.from, p.to), one()}, i + 1, true
	}
	back, last := c.numbers[it.prod][it.dot-1], c.prods[it.prod].Right[it.dot-1].N
	at := leastCommon(c.waiting[p.from].of(back), c.sets[p.to].of(last), next)
	if at < 0 {
		return product{}, 0, false
	}
	return product{c.row(back, p.from, at), part{last, at, p.to}}, at + 1, true
}

// rule is the first of a nonterminal's rules, from the next on, that gives a part of the word; -1, if none does.
func (c *counter) rule(n, next, from, to int) int {
	for i := next; i < len(c.rules[n]); i++ {
		if c.sets[to].has(c.endOf(c.rules[n][i]), from) {
			return i
		}
	}
	return -1
}

// row is what stands ahead of an item's dot, up to the last nonterminal: terminals are there once.
func (c *counter) row(item, from, to int) part {
	it := c.items[item]
	right := c.prods[it.prod].Right
	dot := it.dot
	for dot > 0 && right[dot-1].Kind == api.SymTerm {
		dot--
		to--
	}
	if dot == 0 {
		return one()
	}
	return part{c.numbers[it.prod][dot], from, to}
}

// origin is an item, and where it began.
type origin struct {
	item, from int
}

// turned tells by places where items began that wait for nonterminals, as sets do by places where they stand.
func (c *chart) turned() []marks {
	all := make([]marks, len(c.sets))
	for at := 0; at < len(c.sets); at += blockSize {
		for o, places := range c.turnedBlock(at) {
			all[o.from] = append(all[o.from], mark{spot{o.item, at / blockSize}, places})
		}
	}
	for _, l := range all {
		l.sort()
	}
	return all
}

// turnedBlock is where in a block of places items stand.
func (c *chart) turnedBlock(at int) map[origin]uint64 {
	found := make(map[origin]uint64)
	for i, set := range c.sets[at:min(at+blockSize, len(c.sets))] {
		for _, m := range set {
			if c.items[m.item].next.Kind != api.SymNon {
				continue
			}
			for from := range m.all {
				found[origin{m.item, from}] |= 1 << i
			}
		}
	}
	return found
}
