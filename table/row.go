package table

import (
	"slices"

	"gantry/api"
)

// claim is a row that is claimed to stand in a table of so many rows. Each of its checks leans on none of the others.
type claim struct {
	grammar api.Grammar
	rows    int
	row     api.Row
}

// check answers the row's first fault.
func (c claim) check() api.Errno {
	checks := []func(claim) api.Errno{
		claim.checkCounts,
		claim.checkNumbers,
		claim.checkDefault,
	}
	for _, check := range checks {
		if e := check(c); e != api.OK {
			return e
		}
	}
	return api.OK
}

func (c claim) checkCounts() api.Errno {
	if len(c.row.Acts) != len(c.grammar.Terms)+1 || len(c.row.Gotos) != len(c.grammar.Nons) {
		return api.ErrShape
	}
	return api.OK
}

func (c claim) checkNumbers() api.Errno {
	strange := func(a api.Action) bool { return !c.hasAction(a) }
	lost := func(to int) bool { return to != noState && !isBelow(to, c.rows) }
	switch {
	case c.row.Default != noProd && !isBelow(c.row.Default, len(c.grammar.Prods)):
		return api.ErrRange
	case slices.ContainsFunc(c.row.Acts, strange):
		return api.ErrRange
	case slices.ContainsFunc(c.row.Gotos, lost):
		return api.ErrRange
	}
	return api.OK
}

// hasAction tells whether there is such an action.
func (c claim) hasAction(a api.Action) bool {
	switch a.Kind {
	case api.ActError, api.ActAccept:
		return a.Arg == 0
	case api.ActShift:
		return isBelow(a.Arg, c.rows)
	case api.ActReduce:
		return isBelow(a.Arg, len(c.grammar.Prods))
	}
	return false
}

func (c claim) checkDefault() api.Errno {
	acts := func(a api.Action) bool { return a.Kind != api.ActError }
	if c.row.Default != noProd && slices.ContainsFunc(c.row.Acts, acts) {
		return api.ErrAction
	}
	return api.OK
}

// loneReduction is the production that a row reduces, and whether it does nothing else. A row that has a Default reduces none by its actions.
func loneReduction(row api.Row) (int, bool) {
	found := noProd
	for _, a := range row.Acts {
		switch {
		case a.Kind == api.ActError:
		case a.Kind != api.ActReduce || found != noProd && found != a.Arg:
			return 0, false
		default:
			found = a.Arg
		}
	}
	return found, found != noProd
}

// copied is a table in memory of its own.
func copied(t api.Table) api.Table {
	rows := slices.Clone(t.Rows)
	for n, row := range rows {
		rows[n].Acts, rows[n].Gotos = slices.Clone(row.Acts), slices.Clone(row.Gotos)
	}
	return api.Table{Rows: rows}
}
