package glr_test

import (
	"math/rand"
	"reflect"
	"slices"
	"testing"

	"gantry/api"
	"gantry/glr"
	"gantry/trees"
)

// eachList goes over all lists in a value, those in spare room, too; the inner ones first.
func eachList(v reflect.Value, do func(l reflect.Value)) {
	switch v.Kind() {
	case reflect.Struct:
		for n := range v.NumField() {
			eachList(v.Field(n), do)
		}
	case reflect.Slice:
		whole := v.Slice(0, v.Cap())
		for n := range whole.Len() {
			eachList(whole.Index(n), do)
		}
		do(v)
	}
}

// room is the memory of a list, from the first byte to that behind the last.
type room struct {
	from, to uintptr
}

// rooms are the memory of all lists in values.
func rooms(values ...any) []room {
	var all []room
	for _, x := range values {
		eachList(reflect.ValueOf(x), func(l reflect.Value) {
			if l.Cap() > 0 {
				all = append(all, room{l.Pointer(), l.Pointer() + uintptr(l.Cap())*l.Type().Elem().Size()})
			}
		})
	}
	return all
}

// share tells whether two of these rooms have a byte in common.
func share(l []room) bool {
	slices.SortFunc(l, func(a, b room) int {
		if a.from < b.from {
			return -1
		}
		return 1
	})
	for n := 1; n < len(l); n++ {
		if l[n].from < l[n-1].to {
			return true
		}
	}
	return false
}

// remade is a value in memory of its own; its lists have more room than they need, in which the last of them stands again, too.
func remade[T any](x T) T {
	return remake(reflect.ValueOf(x), 2).Interface().(T)
}

// copied is a value in memory of its own, of whose lists all room is shown.
func copied[T any](x T) T {
	return remake(reflect.ValueOf(x), 0).Interface().(T)
}

func remake(v reflect.Value, more int) reflect.Value {
	made := reflect.New(v.Type()).Elem()
	switch v.Kind() {
	case reflect.Struct:
		for n := range v.NumField() {
			made.Field(n).Set(remake(v.Field(n), more))
		}
	case reflect.Slice:
		shown := v.Len()
		if more == 0 {
			shown = v.Cap()
		}
		made = reflect.MakeSlice(v.Type(), shown, shown+more)
		whole := made.Slice(0, shown+more)
		for n := range whole.Len() {
			if shown > 0 {
				whole.Index(n).Set(remake(v.Slice(0, shown).Index(min(n, shown-1)), more))
			}
		}
	default:
		made.Set(v)
	}
	return made
}

// spoil puts zero in all lists of a value, and in their spare room.
func spoil(x any) {
	eachList(reflect.ValueOf(x), func(l reflect.Value) {
		for n := range l.Cap() {
			l.Slice(0, l.Cap()).Index(n).SetZero()
		}
	})
}

// asked is what calls are asked with.
type asked struct {
	Grammar api.Grammar
	Text    []api.Token
	Forest  api.Forest
	Tree    api.Tree
}

// calls asks every call, and tells what they answer.
func calls(x asked) []any {
	forest, e1 := glr.Forest(x.Grammar, x.Text)
	accepts, e2 := glr.Accepts(x.Grammar, x.Text)
	e3, at := glr.Check(x.Grammar, x.Forest)
	loops := glr.Loops(x.Forest)
	count, e4 := glr.Count(x.Forest, 4097)
	list, e5 := glr.Trees(x.Grammar, x.Forest, x.Text, 50)
	contains, e6 := glr.Contains(x.Grammar, x.Forest, x.Tree)
	ambiguous := glr.Ambiguous(x.Forest)
	printed, e7 := glr.Print(x.Grammar, x.Forest)
	return []any{forest, e1, accepts, e2, e3, at, loops, count, e4, list, e5, contains, e6, ambiguous, printed, e7}
}

// anyAsked is a grammar, a text, mostly its forest, and a tree that may be one of it.
func anyAsked(r *rand.Rand) asked {
	g := anyGrammar(r, 2, 4, 9, 4)
	if r.Intn(2) == 0 {
		g = layered(r, 2, 4, 9, 4)
	}
	g.Levels = []api.Level{{Assoc: api.AssocLeft, Terms: []int{0}}}
	x := asked{Grammar: g, Text: text(anyKinds(r, g, 6)...)}
	if tree, found := anyTree(r, g, non(g.Start), 4); found && len(trees.Yield(tree)) < 9 {
		x.Tree = tree
		if r.Intn(4) > 0 {
			x.Text = trees.Yield(tree)
		}
	}
	x.Forest = must(glr.Forest(g, x.Text))
	if r.Intn(3) == 0 {
		x.Forest = thinned(r, x.Forest)
	}
	if r.Intn(6) == 0 {
		x.Forest = spoiled(r, x.Forest)
	}
	return x
}

// P24.9: calls change and keep nothing, and what they answer is new.
func TestMemory(t *testing.T) {
	r := rand.New(rand.NewSource(249))
	seen := map[string]int{}
	for range 2500 {
		x := remade(anyAsked(r))
		same := copied(x)
		one, two := calls(x), calls(x)
		if !reflect.DeepEqual(copied(x), same) {
			t.Fatal("an argument is changed:", same)
		}
		if !reflect.DeepEqual(one, two) {
			t.Fatal("another answer:", same)
		}
		if share(rooms(append(slices.Concat(one, two), x)...)) {
			t.Fatal("memory is shared:", same)
		}
		for _, answer := range one {
			spoil(answer)
		}
		third := calls(x)
		spoil(x)
		if !reflect.DeepEqual(third, two) {
			t.Fatal("an answer or an argument is kept:", same)
		}
		if len(two[9].([]api.Tree)) > 1 {
			seen["trees"]++
		}
		if len(two[6].([]int)) > 0 {
			seen["loops"]++
		}
		if two[11].(bool) {
			seen["contains"]++
		}
		if two[4] == api.ErrForest {
			seen["broken"]++
		}
	}
	seenAll(t, seen, 80, "trees", "loops", "contains", "broken")
}
