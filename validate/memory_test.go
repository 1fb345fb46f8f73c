package validate_test

import (
	"math/rand"
	"reflect"
	"slices"
	"testing"

	"gantry/api"
	"gantry/validate"
)

// eachList goes over all lists in a value, those in spare room, too; the inner ones first.
func eachList(v reflect.Value, do func(l reflect.Value)) {
	switch v.Kind() {
	case reflect.Struct:
		for n := range v.NumField() {
			eachList(v.Field(n), do)
		}
	case reflect.Slice:
		whole := v.Slice(0, v.Cap())
		for n := range whole.Len() {
			eachList(whole.Index(n), do)
		}
		do(v)
	}
}

// room is the memory of a list, from the first byte to that behind the last.
type room struct {
	from, to uintptr
}

// rooms are the memory of all lists in values.
func rooms(values ...any) []room {
	var all []room
	for _, x := range values {
		eachList(reflect.ValueOf(x), func(l reflect.Value) {
			if l.Cap() > 0 {
				all = append(all, room{l.Pointer(), l.Pointer() + uintptr(l.Cap())*l.Type().Elem().Size()})
			}
		})
	}
	return all
}

// share tells whether two of these rooms have a byte in common.
func share(l []room) bool {
	slices.SortFunc(l, func(a, b room) int {
		if a.from < b.from {
			return -1
		}
		return 1
	})
	for n := 1; n < len(l); n++ {
		if l[n].from < l[n-1].to {
			return true
		}
	}
	return false
}

// remade is a value in memory of its own; its lists have more room than they need, in which the last of them stands again, too.
func remade[T any](x T) T {
	return remake(reflect.ValueOf(x), 2).Interface().(T)
}

// copied is a value in memory of its own, of whose lists all room is shown.
func copied[T any](x T) T {
	return remake(reflect.ValueOf(x), 0).Interface().(T)
}

func remake(v reflect.Value, more int) reflect.Value {
	made := reflect.New(v.Type()).Elem()
	switch v.Kind() {
	case reflect.Struct:
		for n := range v.NumField() {
			made.Field(n).Set(remake(v.Field(n), more))
		}
	case reflect.Slice:
		shown := v.Len()
		if more == 0 {
			shown = v.Cap()
		}
		made = reflect.MakeSlice(v.Type(), shown, shown+more)
		whole := made.Slice(0, shown+more)
		for n := range whole.Len() {
			if shown > 0 {
				whole.Index(n).Set(remake(v.Slice(0, shown).Index(min(n, shown-1)), more))
			}
		}
	default:
		made.Set(v)
	}
	return made
}

// spoil puts zero in all lists of a value, and in their spare room.
func spoil(x any) {
	eachList(reflect.ValueOf(x), func(l reflect.Value) {
		for n := range l.Cap() {
			l.Slice(0, l.Cap()).Index(n).SetZero()
		}
	})
}

// levels has levels and precedences, that decide nothing.
func levels() api.Grammar {
	g := nest()
	g.Levels = []api.Level{{Assoc: api.AssocLeft, Terms: []int{0, 2}}, {Assoc: api.AssocNone, Terms: []int{1}}}
	g.Prods[1].Prec = 0
	return g
}

// P18.12: no call changes or keeps what it is given, spare room too.
func TestArguments(t *testing.T) {
	r := rand.New(rand.NewSource(1812))
	taken := 0
	for n := range 400 {
		g := levels()
		if n > 0 {
			g = anyWell(r, 3, 3, 6, 4)
		}
		b, ok := anyBundle(r, g, 40)
		if !ok {
			continue
		}
		if n > 0 && r.Intn(2) == 0 {
			b = turned(r, g, b, true)
		}
		g, b = remade(g), remade(b)
		sameG, sameB := copied(g), copied(b)
		got := held(t, g, b)
		if !reflect.DeepEqual(copied(g), sameG) || !reflect.DeepEqual(copied(b), sameB) {
			t.Fatal("an argument is changed:", g, b)
		}
		v, e, at := validate.Validate(g, b)
		if got[4] != (answer{e, at}) {
			t.Fatal("another answer:", got, e, at)
		}
		if e != api.OK {
			continue
		}
		taken++
		before, rows := v.Grammar(), v.Table()
		spoil(g)
		spoil(b)
		if !sameGrammar(v.Grammar(), before) || !sameTable(v.Table(), rows) || len(before.Prods) == 0 || len(rows.Rows) == 0 {
			t.Fatal("an argument is kept:", v.Grammar(), v.Table())
		}
	}
	if taken < 50 {
		t.Error("too seldom:", taken)
	}
}

// P18.12: what a Valid answers is new each time, and no two lists share memory.
func TestAnswers(t *testing.T) {
	for _, g := range []api.Grammar{levels(), nest(), claims()} {
		b := merged(g, true)
		v, _, _ := validate.Validate(g, b)
		before, rows := v.Grammar(), v.Table()
		if share(rooms(g, b, before, rows, v.Grammar(), v.Table())) {
			t.Error("answers share memory:", g)
		}
		spoil(before)
		spoil(rows)
		if !v.Made() || !sameGrammar(v.Grammar(), g) || !sameTable(v.Table(), b.Table) {
			t.Error("an answer is kept:", v.Grammar(), v.Table())
		}
	}
}

// P18.12: one list may stand in many places of what is handed in.
func TestSharedArguments(t *testing.T) {
	g := grammarOf(2, 1, 0, prod(0, term(0)), prod(0, term(0), term(1)), prod(0, term(0), term(1), term(1)))
	right := g.Prods[2].Right
	g.Prods[0].Right, g.Prods[1].Right = right[:1], right[:2]
	g.Terms, g.Nons = []string{"a", "b"}, []string{"S"}
	b := merged(g, true)
	none := make([]api.Action, 3)
	nowhere := []int{-1}
	for n, row := range b.Table.Rows {
		if row.Default != -1 {
			b.Table.Rows[n].Acts = none
		}
		if row.Gotos[0] == -1 {
			b.Table.Rows[n].Gotos = nowhere
		}
	}
	if got := held(t, g, b); got[4] != fine {
		t.Fatal(got)
	}
	v, _, _ := validate.Validate(g, b)
	if share(rooms(v.Grammar(), v.Table())) {
		t.Error("what was shared ahead is shared behind:", v.Grammar(), v.Table())
	}
}

// P3 of DOC.md: the same answers, asked again and side by side; a Valid may be asked by many.
func TestAgain(t *testing.T) {
	r := rand.New(rand.NewSource(1813))
	for range 40 {
		g := anyWell(r, 3, 3, 6, 4)
		b, ok := anyBundle(r, g, 40)
		if !ok {
			continue
		}
		want := held(t, g, b)
		one, _, _ := validate.Validate(g, b)
		done := make(chan bool)
		for range 4 {
			go func() {
				v, e, at := validate.Validate(g, b)
				f, place := validate.Complete(g, b)
				done <- want[4] == answer{e, at} && want[2] == answer{f, place} && sameGrammar(v.Grammar(), one.Grammar()) && sameTable(v.Table(), one.Table())
			}()
		}
		for range 4 {
			if !<-done {
				t.Error("another answer:", g, b)
			}
		}
	}
}
