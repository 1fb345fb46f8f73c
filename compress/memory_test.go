package compress_test

import (
	"bytes"
	"math/rand"
	"reflect"
	"slices"
	"testing"

	"gantry/api"
	"gantry/compress"
)

// eachList goes over all lists in a value, those in spare room, too; the inner ones first.
func eachList(v reflect.Value, do func(l reflect.Value)) {
	switch v.Kind() {
	case reflect.Struct:
		for n := range v.NumField() {
			eachList(v.Field(n), do)
		}
	case reflect.Slice:
		whole := v.Slice(0, v.Cap())
		for n := range whole.Len() {
			eachList(whole.Index(n), do)
		}
		do(v)
	}
}

// room is the memory of a list, from the first byte to that behind the last.
type room struct {
	from, to uintptr
}

// rooms are the memory of all lists in values.
func rooms(values ...any) []room {
	var all []room
	for _, x := range values {
		eachList(reflect.ValueOf(x), func(l reflect.Value) {
			if l.Cap() > 0 {
				all = append(all, room{l.Pointer(), l.Pointer() + uintptr(l.Cap())*l.Type().Elem().Size()})
			}
		})
	}
	return all
}

// share tells whether two of these rooms have a byte in common.
func share(l []room) bool {
	slices.SortFunc(l, func(a, b room) int {
		if a.from < b.from {
			return -1
		}
		return 1
	})
	for n := 1; n < len(l); n++ {
		if l[n].from < l[n-1].to {
			return true
		}
	}
	return false
}

// remade is a value in memory of its own; its lists have more room than they need, in which the last of them stands again, too.
func remade[T any](x T) T {
	return remake(reflect.ValueOf(x), 2).Interface().(T)
}

// copied is a value in memory of its own, of whose lists all room is shown.
func copied[T any](x T) T {
	return remake(reflect.ValueOf(x), 0).Interface().(T)
}

func remake(v reflect.Value, more int) reflect.Value {
	made := reflect.New(v.Type()).Elem()
	switch v.Kind() {
	case reflect.Struct:
		for n := range v.NumField() {
			made.Field(n).Set(remake(v.Field(n), more))
		}
	case reflect.Slice:
		shown := v.Len()
		if more == 0 {
			shown = v.Cap()
		}
		made = reflect.MakeSlice(v.Type(), shown, shown+more)
		whole := made.Slice(0, shown+more)
		for n := range whole.Len() {
			if shown > 0 {
				whole.Index(n).Set(remake(v.Slice(0, shown).Index(min(n, shown-1)), more))
			}
		}
	default:
		made.Set(v)
	}
	return made
}

// spoil puts zero in all lists of a value, and in their spare room.
func spoil(x any) {
	eachList(reflect.ValueOf(x), func(l reflect.Value) {
		for n := range l.Cap() {
			l.Slice(0, l.Cap()).Index(n).SetZero()
		}
	})
}

// P22.8: Pack and Ratio change and keep nothing, and what Pack answers is new; so is what Unpack answers.
func TestMemoryOfTables(t *testing.T) {
	r := rand.New(rand.NewSource(2281))
	taken := 0
	for n := range 2000 {
		g := anyGrammar(r, 5, 5)
		y := anyTable(r, g, 1+r.Intn(5))
		if n%5 == 0 {
			y.Rows[0].Gotos[0] = -2
		}
		g, y = remade(g), remade(y)
		sameG, sameY := copied(g), copied(y)
		want, wantE := modelPack(g, y)
		p, e := compress.Pack(g, y)
		q, _ := compress.Pack(g, y)
		compress.Ratio(g, y)
		if !reflect.DeepEqual(copied(g), sameG) || !reflect.DeepEqual(copied(y), sameY) {
			t.Fatal("an argument is changed:", g, y)
		}
		if share(rooms(g, y, p, q)) {
			t.Fatal("memory is shared:", g, y)
		}
		spoil(g)
		spoil(y)
		spoil(q)
		if e != wantE || !same(p, want) {
			t.Fatal("an argument is kept:", p, want)
		}
		if e == api.OK {
			taken++
		}
	}
	if taken < 1000 || taken > 1900 {
		t.Error("too seldom:", taken)
	}
}

// P22.8: calls on packed tables change and keep nothing, and answer new memory.
func TestMemoryOfPacked(t *testing.T) {
	r := rand.New(rand.NewSource(2282))
	taken := 0
	for n := range 3000 {
		p := remade(anyPacked(r, n%3))
		sameP := copied(p)
		want, wantE := modelUnpack(p)
		code, _ := modelEncode(p)
		y, e := compress.Unpack(p)
		z, _ := compress.Unpack(p)
		frame, f := compress.Encode(p)
		other, _ := compress.Encode(p)
		compress.Check(p)
		compress.Action(p, 0, 0)
		compress.Goto(p, 0, 0)
		if !reflect.DeepEqual(copied(p), sameP) {
			t.Fatal("an argument is changed:", p)
		}
		if share(rooms(p, y, z, frame, other)) {
			t.Fatal("memory is shared:", p)
		}
		spoil(p)
		spoil(z)
		spoil(other)
		if e != wantE || f != wantE || !sameTable(y, want) || !bytes.Equal(frame, code) {
			t.Fatal("an argument is kept:", y, want, frame, code)
		}
		if e == api.OK {
			taken++
		}
	}
	if taken < 1000 || taken > 2800 {
		t.Error("too seldom:", taken)
	}
}

// P22.8: Decode changes and keeps nothing, and answers new memory.
func TestMemoryOfDecode(t *testing.T) {
	r := rand.New(rand.NewSource(2283))
	for range 1000 {
		want := anyPacked(r, 0)
		frame := remade(must(compress.Encode(want)))
		was := copied(frame)
		p, e, _ := compress.Decode(frame)
		q, _, _ := compress.Decode(frame)
		if !bytes.Equal(copied(frame), was) {
			t.Fatal("an argument is changed:", want)
		}
		if share(rooms(frame, p, q)) {
			t.Fatal("memory is shared:", want)
		}
		spoil(frame)
		spoil(q)
		if e != api.OK || !same(p, want) {
			t.Fatal("an argument is kept:", p, want)
		}
	}
}

// P22.8: one list may stand in many places of what is handed in.
func TestSharedArguments(t *testing.T) {
	l := acts(to(0), fault, by(0))
	gotos := []int{1, -1, 0}
	g := sized(2, 3, 1)
	y := rows(looks(l, gotos...), looks(l, gotos...))
	y.Rows[1].Gotos = y.Rows[0].Gotos
	p, e := heldOfTable(t, g, y)
	if e != api.OK {
		t.Fatal(e)
	}
	if share(rooms(must(compress.Unpack(p)))) {
		t.Error("what was shared ahead is shared behind")
	}
	one := []int{0, 0, 0}
	shared := api.Packed{Terms: 1, Nons: 1, Default: one, ActBase: one, GotoBase: one, Owner: slices.Repeat([]int{-1}, 3), Value: one}
	if e := heldOfPacked(t, shared); e != api.OK {
		t.Error(e)
	}
	frame := must(compress.Encode(shared))
	q, _, _ := compress.Decode(frame)
	if share(rooms(q)) {
		t.Error("lists of one answer share memory")
	}
}

// P3 of DOC.md: the same answers, asked again and side by side.
func TestAgain(t *testing.T) {
	r := rand.New(rand.NewSource(2284))
	g := anyGrammar(r, 9, 9)
	y := anyTable(r, g, 12)
	want, _ := modelPack(g, y)
	done := make(chan bool)
	for range 8 {
		go func() {
			ok := true
			for range 50 {
				p, e := compress.Pack(g, y)
				frame, f := compress.Encode(p)
				q, h, _ := compress.Decode(frame)
				z, i := compress.Unpack(q)
				ok = ok && e == api.OK && f == api.OK && h == api.OK && i == api.OK && same(p, want) && same(q, want) && sameTable(z, y)
			}
			done <- ok
		}()
	}
	for range 8 {
		if !<-done {
			t.Error("another answer")
		}
	}
}
