package notation

import (
	"slices"

	"gantry/api"
	"gantry/symbols"
)

// reader is a text, how far it is read, and what it has come to.
type reader struct {
	text string
	at   int
	next func(piece) // what may come next, and what is done with it

	name   func(piece) // what a name of the declaration at hand does
	quotes bool        // whether quoted names may be in it

	book   *symbols.Book
	levels []api.Level
	start  piece
	done   []alternative
	now    alternative
}

// alternative is a production, whose words may not be known yet.
type alternative struct {
	left  int
	right []piece
	prec  int
}

func newReader(text string) *reader {
	return &reader{text: text, book: symbols.New()}
}

func (r *reader) readAll() api.Grammar {
	r.next = r.line
	for {
		p := pieceAt(r.text, r.at)
		r.at = p.at + len(p.text)
		r.next(p)
		if p.kind == textEnd {
			return r.grammar()
		}
	}
}

// line is at the beginning, and behind all that may be the last of a text.
func (r *reader) line(p piece) {
	switch p.kind {
	case textEnd:
	case word:
		r.rule(p)
	default:
		r.declaration(p)
	}
}

func (r *reader) declaration(p piece) {
	switch p.text {
	case wordTerm:
		r.declare(p, r.nameTerm, true)
	case wordNon:
		r.declare(p, r.nameNon, false)
	case wordLeft:
		r.level(p, api.AssocLeft)
	case wordRight:
		r.level(p, api.AssocRight)
	case wordNonassoc:
		r.level(p, api.AssocNone)
	case wordStart:
		r.declare(p, r.nameStart, false)
		if r.start.kind == word {
			giveUp(api.ErrTwice, p.at)
		}
	default:
		giveUp(api.ErrLine, p.at)
	}
}

// declare begins a declaration, each of whose names does name.
func (r *reader) declare(p piece, name func(piece), quotes bool) {
	if len(r.done) > 0 {
		giveUp(api.ErrPlace, p.at)
	}
	r.name, r.quotes = name, quotes
	r.next = r.firstName
}

func (r *reader) level(p piece, a api.Assoc) {
	r.declare(p, r.nameOperator, true)
	if len(r.levels) == api.MaxLevels {
		giveUp(api.ErrLevel, p.at)
	}
	r.levels = append(r.levels, api.Level{Assoc: a})
}

func (r *reader) firstName(p piece) {
	if !r.isName(p) {
		giveUp(api.ErrLine, p.at)
	}
	r.next = r.furtherName
	r.name(p)
}

func (r *reader) furtherName(p piece) {
	if r.isName(p) {
		r.name(p)
		return
	}
	r.line(p)
}

// isName answers whether p, the piece read last, is a name of the declaration at hand, and not a rule's left side.
func (r *reader) isName(p piece) bool {
	switch p.kind {
	case word:
		behind := skip(r.text, r.at)
		return behind == len(r.text) || r.text[behind] != ':'
	case quoted:
		return r.quotes
	}
	return false
}

func (r *reader) nameTerm(p piece) {
	if _, known := r.book.Find(p.text); known {
		giveUp(api.ErrTwice, p.at)
	}
	r.term(p)
}

func (r *reader) nameNon(p piece) {
	if _, known := r.book.Find(p.text); known {
		giveUp(api.ErrTwice, p.at)
	}
	r.non(p)
}

func (r *reader) nameOperator(p piece) {
	s, known := r.book.Find(p.text)
	switch {
	case known && s.Kind == api.SymNon:
		giveUp(api.ErrKnown, p.at)
	case known && r.inLevel(s.N):
		giveUp(api.ErrTwice, p.at)
	}
	last := &r.levels[len(r.levels)-1]
	last.Terms = append(last.Terms, r.term(p))
}

func (r *reader) inLevel(term int) bool {
	return slices.ContainsFunc(r.levels, func(l api.Level) bool {
		return slices.Contains(l.Terms, term)
	})
}

// nameStart asks nothing of the name: its rule comes later.
func (r *reader) nameStart(p piece) {
	r.start = p
	r.next = r.line
}

func (r *reader) rule(p piece) {
	if s, known := r.book.Find(p.text); known && s.Kind == api.SymTerm {
		giveUp(api.ErrKnown, p.at)
	}
	r.begin(r.non(p))
	r.next = r.behindLeft
}

// begin begins an alternative of that nonterminal.
func (r *reader) begin(left int) {
	r.now = alternative{left: left, prec: noPrec}
}

func (r *reader) behindLeft(p piece) {
	if p.text != ":" {
		giveUp(api.ErrLine, p.at)
	}
	r.next = r.alternative
}

func (r *reader) alternative(p piece) {
	if p.text == wordEmpty {
		r.next = r.behindEmpty
		return
	}
	r.behindSymbol(p)
}

func (r *reader) behindSymbol(p piece) {
	if p.isSymbol() {
		r.symbol(p)
		return
	}
	r.behindEmpty(p)
}

func (r *reader) behindEmpty(p piece) {
	if p.text == wordPrec {
		r.next = r.precedence
		return
	}
	r.behindPrecedence(p)
}

func (r *reader) behindPrecedence(p piece) {
	switch p.text {
	case "|":
		r.end(p)
		r.next = r.alternative
	case ";":
		r.end(p)
		r.next = r.line
	default:
		giveUp(api.ErrLine, p.at)
	}
}

func (r *reader) symbol(p piece) {
	if len(r.now.right) == api.MaxRight {
		giveUp(api.ErrRight, p.at)
	}
	if p.kind == quoted {
		r.term(p)
	}
	r.now.right = append(r.now.right, p)
	r.next = r.behindSymbol
}

func (r *reader) precedence(p piece) {
	if !p.isSymbol() {
		giveUp(api.ErrLine, p.at)
	}
	if s, _ := r.book.Find(p.text); p.kind == word && s.Kind != api.SymTerm {
		giveUp(api.ErrKnown, p.at)
	}
	r.now.prec = r.term(p)
	r.next = r.behindPrecedence
}

// end ends the alternative at hand by the sign p, and begins the next one.
func (r *reader) end(p piece) {
	switch {
	case len(r.done) == api.MaxProds:
		giveUp(api.ErrProds, p.at)
	case slices.ContainsFunc(r.done, r.now.same):
		giveUp(api.ErrTwice, p.at)
	}
	r.done = append(r.done, r.now)
	r.begin(r.now.left)
}

// same holds names against each other: no two symbols have the same, so it is enough where they are not known yet.
func (a alternative) same(b alternative) bool {
	return a.left == b.left && slices.EqualFunc(a.right, b.right, func(p, q piece) bool {
		return p.text == q.text
	})
}

// term answers the number of the terminal that p names.
func (r *reader) term(p piece) int {
	n, e := r.book.Term(p.text)
	if e != api.OK {
		giveUp(e, p.at)
	}
	return n
}

// non answers the number of the nonterminal that p names.
func (r *reader) non(p piece) int {
	n, e := r.book.Non(p.text)
	if e != api.OK {
		giveUp(e, p.at)
	}
	return n
}

// grammar is what is asked behind the last piece. %start stands ahead of all rules, so it is asked first.
func (r *reader) grammar() api.Grammar {
	r.checkStart()
	prods := r.prods()
	terms := r.book.Terms()
	switch {
	case len(terms) == 0:
		giveUp(api.ErrTerms, len(r.text))
	case len(prods) == 0:
		giveUp(api.ErrProds, len(r.text))
	}
	for _, l := range r.levels {
		slices.Sort(l.Terms)
	}
	return api.Grammar{Terms: terms, Nons: r.book.Nons(), Start: r.startNumber(), Prods: prods, Levels: r.levels}
}

func (r *reader) checkStart() {
	if r.start.kind != word {
		return
	}
	if s, _ := r.book.Find(r.start.text); s.Kind != api.SymNon {
		giveUp(api.ErrKnown, r.start.at)
	}
}

func (r *reader) startNumber() int {
	if s, told := r.book.Find(r.start.text); told {
		return s.N
	}
	return r.done[0].left
}

func (r *reader) prods() []api.Prod {
	var prods []api.Prod
	for _, a := range r.done {
		prods = append(prods, api.Prod{Left: a.left, Right: r.right(a), Prec: a.prec})
	}
	return prods
}

func (r *reader) right(a alternative) []api.Sym {
	var l []api.Sym
	for _, p := range a.right {
		s, known := r.book.Find(p.text)
		if !known {
			giveUp(api.ErrKnown, p.at)
		}
		l = append(l, s)
	}
	return l
}
