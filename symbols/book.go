package symbols

import (
	"slices"
	"strings"

	"gantry/api"
)

// Book has names in the order in which they came. New makes one; any other has none and takes none.
type Book struct {
	pages *pages
}

// pages is what a book has come to. It stands behind a pointer so that a copied Book is the same book: the map would be shared, and the lists would not follow it.
type pages struct {
	found map[string]api.Sym
	terms page
	nons  page
}

// page is the names of one kind of symbols, by number.
type page struct {
	kind  api.SymKind
	most  int
	full  api.Errno
	names []string
}

// New answers a book without names.
func New() *Book {
	return &Book{pages: &pages{
		found: make(map[string]api.Sym),
		terms: page{kind: api.SymTerm, most: api.MaxTerms, full: api.ErrTerms},
		nons:  page{kind: api.SymNon, most: api.MaxNons, full: api.ErrNons},
	}}
}

// Term answers the number of the terminal of that name, a new one if need be.
func (b *Book) Term(name string) (int, api.Errno) {
	switch {
	case !b.made():
		return 0, api.ErrMade
	case !isTermName(name):
		return 0, api.ErrName
	}
	return b.pages.number(&b.pages.terms, name)
}

// Non answers the number of the nonterminal of that name, a new one if need be.
func (b *Book) Non(name string) (int, api.Errno) {
	switch {
	case !b.made():
		return 0, api.ErrMade
	case !IsWord(name):
		return 0, api.ErrName
	}
	return b.pages.number(&b.pages.nons, name)
}

// Find answers the symbol of that name, and whether there is one.
func (b *Book) Find(name string) (api.Sym, bool) {
	if !b.made() {
		return api.Sym{}, false
	}
	s, ok := b.pages.found[name]
	return s, ok
}

// Name answers the name of s.
func (b *Book) Name(s api.Sym) (string, api.Errno) {
	if !b.made() {
		return "", api.ErrMade
	}
	name, ok := nameOf(b.pages.terms.names, b.pages.nons.names, s)
	if !ok {
		return "", api.ErrSymbol
	}
	return name, api.OK
}

// Terms answers the terminals' names, by number.
func (b *Book) Terms() []string {
	if !b.made() {
		return nil
	}
	return slices.Clone(b.pages.terms.names)
}

// Nons answers the nonterminals' names, by number.
func (b *Book) Nons() []string {
	if !b.made() {
		return nil
	}
	return slices.Clone(b.pages.nons.names)
}

// Mark answers how many terminals (A) and nonterminals (B) there are.
func (b *Book) Mark() api.Pair {
	if !b.made() {
		return api.Pair{}
	}
	return api.Pair{A: len(b.pages.terms.names), B: len(b.pages.nons.names)}
}

// Undo forgets what came behind the mark m.
func (b *Book) Undo(m api.Pair) api.Errno {
	if !b.made() {
		return api.ErrMade
	}
	now := b.Mark()
	if m.A < 0 || m.A > now.A || m.B < 0 || m.B > now.B {
		return api.ErrRange
	}
	b.pages.cut(&b.pages.terms, m.A)
	b.pages.cut(&b.pages.nons, m.B)
	return api.OK
}

func (b *Book) made() bool {
	return b != nil && b.pages != nil
}

// number answers the number of a name on page p, and lays it down there if it is new.
func (k *pages) number(p *page, name string) (int, api.Errno) {
	s, known := k.found[name]
	switch {
	case known && s.Kind == p.kind:
		return s.N, api.OK
	case known:
		return 0, api.ErrTwice
	case len(p.names) == p.most:
		return 0, p.full
	}
	// A name may be a piece of a long text, which must not be kept for its sake.
	name = strings.Clone(name)
	s = api.Sym{Kind: p.kind, N: len(p.names)}
	k.found[name] = s
	p.names = append(p.names, name)
	return s.N, api.OK
}

// cut leaves the first n names on page p.
func (k *pages) cut(p *page, n int) {
	gone := p.names[n:]
	for _, name := range gone {
		delete(k.found, name)
	}
	clear(gone)
	p.names = p.names[:n]
}
