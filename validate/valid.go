package validate

import (
	"slices"

	"gantry/api"
)

// Valid is a grammar and a table that were taken. Only Validate makes one whose made is true, and nothing changes it.
type Valid struct {
	made    bool
	grammar api.Grammar
	table   api.Table
}

func validOf(g api.Grammar, t api.Table) *Valid {
	return &Valid{made: true, grammar: copiedGrammar(g), table: copiedTable(t)}
}

// Grammar answers a copy of the grammar.
func (v *Valid) Grammar() api.Grammar {
	if !v.Made() {
		return api.Grammar{}
	}
	return copiedGrammar(v.grammar)
}

// Table answers a copy of the table.
func (v *Valid) Table() api.Table {
	if !v.Made() {
		return api.Table{}
	}
	return copiedTable(v.table)
}

// Made answers whether Validate made it.
func (v *Valid) Made() bool { return v != nil && v.made }

func copiedGrammar(g api.Grammar) api.Grammar {
	g.Terms, g.Nons = slices.Clone(g.Terms), slices.Clone(g.Nons)
	g.Prods, g.Levels = slices.Clone(g.Prods), slices.Clone(g.Levels)
	for n, p := range g.Prods {
		g.Prods[n].Right = slices.Clone(p.Right)
	}
	for n, l := range g.Levels {
		g.Levels[n].Terms = slices.Clone(l.Terms)
	}
	return g
}

func copiedTable(t api.Table) api.Table {
	rows := slices.Clone(t.Rows)
	for n, row := range rows {
		rows[n].Acts, rows[n].Gotos = slices.Clone(row.Acts), slices.Clone(row.Gotos)
	}
	return api.Table{Rows: rows}
}
