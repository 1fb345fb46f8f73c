package example_test

import (
	"math/rand"
	"reflect"
	"slices"
	"testing"

	"gantry/api"
	"gantry/example"
)

// eachList goes over all lists in a value, those in spare room, too; the inner ones first.
func eachList(v reflect.Value, do func(l reflect.Value)) {
	switch v.Kind() {
	case reflect.Struct:
		for n := range v.NumField() {
			eachList(v.Field(n), do)
		}
	case reflect.Slice:
		whole := v.Slice(0, v.Cap())
		for n := range whole.Len() {
			eachList(whole.Index(n), do)
		}
		do(v)
	}
}

// room is the memory of a list, from the first byte to that behind the last.
type room struct {
	from, to uintptr
}

// rooms are the memory of all lists in values.
func rooms(values ...any) []room {
	var all []room
	for _, x := range values {
		eachList(reflect.ValueOf(x), func(l reflect.Value) {
			if l.Cap() > 0 {
				all = append(all, room{l.Pointer(), l.Pointer() + uintptr(l.Cap())*l.Type().Elem().Size()})
			}
		})
	}
	return all
}

// share tells whether two of these rooms have a byte in common.
func share(l []room) bool {
	slices.SortFunc(l, func(a, b room) int {
		if a.from < b.from {
			return -1
		}
		return 1
	})
	for n := 1; n < len(l); n++ {
		if l[n].from < l[n-1].to {
			return true
		}
	}
	return false
}

// remade is a value in memory of its own; its lists have more room than they need, in which the last of them stands again, too.
func remade[T any](x T) T {
	return remake(reflect.ValueOf(x), 2).Interface().(T)
}

// copied is a value in memory of its own, of whose lists all room is shown.
func copied[T any](x T) T {
	return remake(reflect.ValueOf(x), 0).Interface().(T)
}

func remake(v reflect.Value, more int) reflect.Value {
	made := reflect.New(v.Type()).Elem()
	switch v.Kind() {
	case reflect.Struct:
		for n := range v.NumField() {
			made.Field(n).Set(remake(v.Field(n), more))
		}
	case reflect.Slice:
		shown := v.Len()
		if more == 0 {
			shown = v.Cap()
		}
		made = reflect.MakeSlice(v.Type(), shown, shown+more)
		whole := made.Slice(0, shown+more)
		for n := range whole.Len() {
			if shown > 0 {
				whole.Index(n).Set(remake(v.Slice(0, shown).Index(min(n, shown-1)), more))
			}
		}
	default:
		made.Set(v)
	}
	return made
}

// spoil puts zero in all lists of a value, and in their spare room.
func spoil(x any) {
	eachList(reflect.ValueOf(x), func(l reflect.Value) {
		for n := range l.Cap() {
			l.Slice(0, l.Cap()).Index(n).SetZero()
		}
	})
}

// asked is what calls are asked with.
type asked struct {
	Grammar  api.Grammar
	Tree     api.Tree
	Moves    []example.Move
	Toks     []api.Token
	Conflict api.Conflict
}

// calls asks every call, and tells what they answer.
func calls(x asked) []any {
	moves, e := example.Moves(x.Grammar, x.Tree)
	tree, f, at := example.Follow(x.Grammar, x.Moves, x.Toks)
	proofs, h := example.Explain(x.Grammar, x.Conflict, 6)
	word, two, i := example.Ambiguous(x.Grammar, 6)
	return []any{moves, e, tree, f, at, proofs, h, word, two, i}
}

// anyAsked is of a grammar that has a conflict, if most are asked.
func anyAsked(r *rand.Rand) asked {
	x := asked{Grammar: anyFlat(r, 3, 3, 7, 4)}
	x.Grammar.Levels = []api.Level{{Assoc: api.AssocLeft, Terms: []int{0}}}
	if y, made := anyTree(r, x.Grammar, non(x.Grammar.Start), 6); made {
		x.Tree = y
		x.Moves = must(example.Moves(x.Grammar, y))
		for _, k := range kinds(y) {
			x.Toks = append(x.Toks, api.Token{Kind: k, Text: "y"})
		}
	}
	if l := conflictsOf(x.Grammar); len(l) > 0 {
		x.Conflict = pick(r, l)
	}
	return x
}

// P21.7: calls change and keep nothing, and what they answer is new.
func TestMemory(t *testing.T) {
	r := rand.New(rand.NewSource(2170))
	seen := map[string]int{}
	for range 3000 {
		x := remade(anyAsked(r))
		same := copied(x)
		one, two := calls(x), calls(x)
		if !reflect.DeepEqual(copied(x), same) {
			t.Fatal("an argument is changed:", same)
		}
		if !reflect.DeepEqual(one, two) {
			t.Fatal("another answer:", same)
		}
		if share(rooms(append(slices.Concat(one, two), x)...)) {
			t.Fatal("memory is shared:", same)
		}
		for _, answer := range one {
			spoil(answer)
		}
		third := calls(x)
		spoil(x)
		if !reflect.DeepEqual(third, two) {
			t.Fatal("an answer or an argument is kept:", same)
		}
		if two[1] == api.OK && two[3] == api.OK {
			seen["built"]++
		}
		if two[6] == api.OK {
			seen["proved"]++
		}
		if two[9] == api.OK {
			seen["ambiguous"]++
		}
	}
	seenAll(t, seen, 300, "built", "proved", "ambiguous")
}
