package notation

import (
	"strings"

	"gantry/api"
	"gantry/grammar"
)

// Print answers a grammar's text.
func Print(g api.Grammar) (string, api.Errno) {
	if e, _ := grammar.Check(g); e != api.OK {
		return "", e
	}
	var out printer
	out.line(wordTerm, g.Terms...)
	out.line(wordNon, g.Nons...)
	for _, l := range g.Levels {
		out.line(levelWord(l.Assoc), termNames(g, l)...)
	}
	out.line(wordStart, g.Nons[g.Start])
	for _, p := range g.Prods {
		out.line(g.Nons[p.Left], prodWords(g, p)...)
	}
	return out.String(), api.OK
}

// printer is the lines told so far.
type printer struct {
	strings.Builder
}

func (o *printer) line(first string, rest ...string) {
	o.WriteString(first)
	for _, w := range rest {
		o.WriteByte(' ')
		o.WriteString(w)
	}
	o.WriteByte('\n')
}

func levelWord(a api.Assoc) string {
	switch a {
	case api.AssocLeft:
		return wordLeft
	case api.AssocRight:
		return wordRight
	}
	return wordNonassoc
}

func termNames(g api.Grammar, l api.Level) []string {
	var names []string
	for _, n := range l.Terms {
		names = append(names, g.Terms[n])
	}
	return names
}

// prodWords answers the words behind a production's left side.
func prodWords(g api.Grammar, p api.Prod) []string {
	words := []string{":"}
	for _, s := range p.Right {
		words = append(words, symbolName(g, s))
	}
	if len(p.Right) == 0 {
		words = append(words, wordEmpty)
	}
	if p.Prec != noPrec {
		words = append(words, wordPrec, g.Terms[p.Prec])
	}
	return append(words, ";")
}

func symbolName(g api.Grammar, s api.Sym) string {
	if s.Kind == api.SymTerm {
		return g.Terms[s.N]
	}
	return g.Nons[s.N]
}
