package compress

import (
	"cmp"
	"slices"

	"gantry/api"
)

// entry is one of a piece: how far behind the piece's base it stands, and its value.
type entry struct {
	offset int
	value  int
}

// piece is all entries of one owner, by rising offset. A row owns two: its actions, and its gotos.
type piece []entry

func actOwner(row int) int  { return 2 * row }
func gotoOwner(row int) int { return 2*row + 1 }

// rowOf is the row whose actions or gotos an owner's are.
func rowOf(owner int) int { return owner / 2 }

func isActs(owner int) bool { return owner%2 == 0 }

// piecesOf answers all pieces of a table by their owners; those without entries too.
func piecesOf(t api.Table) []piece {
	l := make([]piece, 2*len(t.Rows))
	for r, row := range t.Rows {
		l[actOwner(r)] = actPiece(row)
		l[gotoOwner(r)] = gotoPiece(row)
	}
	return l
}

func actPiece(row api.Row) piece {
	var l piece
	for look, a := range row.Acts {
		if a.Kind != api.ActError {
			l = append(l, entry{offset: look, value: valueOf(a)})
		}
	}
	return l
}

func gotoPiece(row api.Row) piece {
	var l piece
	for non, state := range row.Gotos {
		if state != noState {
			l = append(l, entry{offset: non, value: state})
		}
	}
	return l
}

// layingOrder answers owners in the order in which their pieces are laid: great ones first, since small ones still fit between them.
func layingOrder(pieces []piece) []int {
	owners := make([]int, len(pieces))
	for n := range owners {
		owners[n] = n
	}
	slices.SortFunc(owners, func(a, b int) int {
		return cmp.Or(cmp.Compare(len(pieces[b]), len(pieces[a])), cmp.Compare(a, b))
	})
	return owners
}

// The values of actions: acceptance, and the least of shifts and of reductions, which take turns. An error is no entry.
const (
	acceptValue = 1
	shiftValue  = 2
	reduceValue = 3
)

// valueOf answers the value of an action that is no error.
func valueOf(a api.Action) int {
	switch a.Kind {
	case api.ActShift:
		return shiftValue + 2*a.Arg
	case api.ActReduce:
		return reduceValue + 2*a.Arg
	}
	return acceptValue
}

// actionOf is valueOf turned back; a value of no action is an error's.
func actionOf(value int) api.Action {
	switch {
	case value == acceptValue:
		return api.Action{Kind: api.ActAccept}
	case value < shiftValue:
		return api.Action{}
	case value%2 == shiftValue%2:
		return api.Action{Kind: api.ActShift, Arg: (value - shiftValue) / 2}
	}
	return api.Action{Kind: api.ActReduce, Arg: (value - reduceValue) / 2}
}
