package earley_test

import (
	"math/rand"
	"reflect"
	"slices"
	"testing"

	"gantry/api"
	"gantry/earley"
	"gantry/trim"
)

// eachList goes over all lists in a value, those in spare room, too; the inner ones first.
func eachList(v reflect.Value, do func(l reflect.Value)) {
	switch v.Kind() {
	case reflect.Struct:
		for n := range v.NumField() {
			eachList(v.Field(n), do)
		}
	case reflect.Slice:
		whole := v.Slice(0, v.Cap())
		for n := range whole.Len() {
			eachList(whole.Index(n), do)
		}
		do(v)
	}
}

// room is the memory of a list, from the first byte to that behind the last.
type room struct {
	from, to uintptr
}

// rooms are the memory of all lists in values.
func rooms(values ...any) []room {
	var all []room
	for _, x := range values {
		eachList(reflect.ValueOf(x), func(l reflect.Value) {
			if l.Cap() > 0 {
				all = append(all, room{l.Pointer(), l.Pointer() + uintptr(l.Cap())*l.Type().Elem().Size()})
			}
		})
	}
	return all
}

// share tells whether two of these rooms have a byte in common.
func share(l []room) bool {
	slices.SortFunc(l, func(a, b room) int {
		if a.from < b.from {
			return -1
		}
		return 1
	})
	for n := 1; n < len(l); n++ {
		if l[n].from < l[n-1].to {
			return true
		}
	}
	return false
}

// remade is a value in memory of its own; its lists have more room than they need, in which the last of them stands again, too.
func remade[T any](x T) T {
	return remake(reflect.ValueOf(x), 2).Interface().(T)
}

// copied is a value in memory of its own, of whose lists all room is shown.
func copied[T any](x T) T {
	return remake(reflect.ValueOf(x), 0).Interface().(T)
}

func remake(v reflect.Value, more int) reflect.Value {
	made := reflect.New(v.Type()).Elem()
	switch v.Kind() {
	case reflect.Struct:
		for n := range v.NumField() {
			made.Field(n).Set(remake(v.Field(n), more))
		}
	case reflect.Slice:
		shown := v.Len()
		if more == 0 {
			shown = v.Cap()
		}
		made = reflect.MakeSlice(v.Type(), shown, shown+more)
		whole := made.Slice(0, shown+more)
		for n := range whole.Len() {
			if shown > 0 {
				whole.Index(n).Set(remake(v.Slice(0, shown).Index(min(n, shown-1)), more))
			}
		}
	default:
		made.Set(v)
	}
	return made
}

// spoil puts zero in all lists of a value, and in their spare room.
func spoil(x any) {
	eachList(reflect.ValueOf(x), func(l reflect.Value) {
		for n := range l.Cap() {
			l.Slice(0, l.Cap()).Index(n).SetZero()
		}
	})
}

// asked is what calls are asked with.
type asked struct {
	Grammar api.Grammar
	Word    []int
}

// calls asks every call, and tells what they answer.
func calls(x asked) []any {
	chart, e1 := earley.Chart(x.Grammar, x.Word)
	accepts, e2 := earley.Accepts(x.Grammar, x.Word)
	next, e3 := earley.Next(x.Grammar, x.Word)
	count, e4 := earley.Count(x.Grammar, x.Word)
	tree, e5 := earley.Tree(x.Grammar, x.Word)
	at, dead, e6 := earley.Dead(x.Grammar, x.Word)
	return []any{chart, e1, accepts, e2, next, e3, count, e4, tree, e5, at, dead, e6}
}

// P23.5: calls change and keep nothing, and what they answer is new.
func TestMemory(t *testing.T) {
	r := rand.New(rand.NewSource(2350))
	seen := map[string]int{}
	for range 2000 {
		g := layered(r, 2, 4, 9, 4)
		g.Levels = []api.Level{{Assoc: api.AssocLeft, Terms: []int{0}}}
		w := anyWord(r, g, 6)
		if r.Intn(3) > 0 && len(must(trim.Barren(g))) == 0 {
			w = anyText(r, g, r.Intn(20))
		}
		x := remade(asked{g, w})
		same := copied(x)
		one, two := calls(x), calls(x)
		if !reflect.DeepEqual(copied(x), same) {
			t.Fatal("an argument is changed:", same)
		}
		if !reflect.DeepEqual(one, two) {
			t.Fatal("another answer:", same)
		}
		if share(rooms(append(slices.Concat(one, two), x)...)) {
			t.Fatal("memory is shared:", same)
		}
		for _, answer := range one {
			spoil(answer)
		}
		third := calls(x)
		spoil(x)
		if !reflect.DeepEqual(third, two) {
			t.Fatal("an answer or an argument is kept:", same)
		}
		if two[9] == api.OK {
			seen["tree"]++
		}
		if two[6].(int) > 1 {
			seen["ambiguous"]++
		}
		if len(two[4].([]int)) > 0 {
			seen["next"]++
		}
	}
	seenAll(t, seen, 200, "tree", "ambiguous", "next")
}
