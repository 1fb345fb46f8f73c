package symbols

import (
	"strings"

	"gantry/api"
)

const blank = ' '

// Spell answers the names of symbols, with one blank between.
func Spell(terms []string, nons []string, l []api.Sym) (string, api.Errno) {
	var out strings.Builder
	for i, s := range l {
		name, ok := nameOf(terms, nons, s)
		if !ok {
			return "", api.ErrSymbol
		}
		if i > 0 {
			out.WriteByte(blank)
		}
		out.WriteString(name)
	}
	return out.String(), api.OK
}

// Read answers the symbols of a text's words, or ErrKnown and the place of the first word that is no name.
func Read(terms []string, nons []string, text string) ([]api.Sym, api.Errno, int) {
	known := symbolsByName(terms, nons)
	var l []api.Sym
	for at := 0; at < len(text); at++ {
		if text[at] == blank {
			continue
		}
		end := wordEnd(text, at)
		s, ok := known[text[at:end]]
		if !ok {
			return nil, api.ErrKnown, at
		}
		l = append(l, s)
		at = end
	}
	return l, api.OK, 0
}

// wordEnd answers the place behind the word that begins at that place.
func wordEnd(text string, at int) int {
	n := strings.IndexByte(text[at:], blank)
	if n < 0 {
		return len(text)
	}
	return at + n
}

// symbolsByName lays down last what goes ahead of the others of the same name.
func symbolsByName(terms []string, nons []string) map[string]api.Sym {
	known := make(map[string]api.Sym, len(terms)+len(nons)+1)
	for n := len(nons) - 1; n >= 0; n-- {
		known[nons[n]] = api.Sym{Kind: api.SymNon, N: n}
	}
	for n := len(terms) - 1; n >= 0; n-- {
		known[terms[n]] = api.Sym{Kind: api.SymTerm, N: n}
	}
	known[endMarker] = api.Sym{Kind: api.SymTerm, N: len(terms)}
	return known
}

// nameOf answers the name of s, and whether there is such a symbol.
func nameOf(terms []string, nons []string, s api.Sym) (string, bool) {
	switch {
	case s.Kind == api.SymTerm && s.N >= 0 && s.N < len(terms):
		return terms[s.N], true
	case s.Kind == api.SymTerm && s.N == len(terms):
		return endMarker, true
	case s.Kind == api.SymNon && s.N >= 0 && s.N < len(nons):
		return nons[s.N], true
	}
	return "", false
}
