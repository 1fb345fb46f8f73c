package canon

import "gantry/api"

// startProd is the number of start's own production.
const startProd = -1

// rightOf is the right side of a production that there is.
func rightOf(g api.Grammar, prod int) []api.Sym {
	if prod == startProd {
		return []api.Sym{{Kind: api.SymNon, N: g.Start}}
	}
	return g.Prods[prod].Right
}

// keyOf is a text that no other list of items that may be has: of each its core, how many lookaheads there are, and these.
func keyOf(l []api.Item) string {
	var key []byte
	for _, i := range l {
		key = appendCore(key, i)
		key = append(key, byte(len(i.Look)))
		for _, n := range i.Look {
			key = append(key, byte(n))
		}
	}
	return string(key)
}

// coreKeyOf is a text that just those lists have whose cores are the same.
func coreKeyOf(l []api.Item) string {
	var key []byte
	for _, i := range l {
		key = appendCore(key, i)
	}
	return string(key)
}

// appendCore takes two bytes for a production, since there may be as many as a byte counts, and start's own.
func appendCore(key []byte, i api.Item) []byte {
	p := i.Prod - startProd
	return append(key, byte(p>>8), byte(p), byte(i.Dot))
}
