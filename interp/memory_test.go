package interp_test

import (
	"math/rand"
	"reflect"
	"slices"
	"testing"

	"gantry/api"
	"gantry/interp"
)

// eachList goes over all lists in a value, those in spare room, too; the inner ones first.
func eachList(v reflect.Value, do func(l reflect.Value)) {
	switch v.Kind() {
	case reflect.Struct:
		for n := range v.NumField() {
			eachList(v.Field(n), do)
		}
	case reflect.Slice:
		whole := v.Slice(0, v.Cap())
		for n := range whole.Len() {
			eachList(whole.Index(n), do)
		}
		do(v)
	}
}

// room is the memory of a list, from the first byte to that behind the last.
type room struct {
	from, to uintptr
}

// rooms are the memory of all lists in values.
func rooms(values ...any) []room {
	var all []room
	for _, x := range values {
		eachList(reflect.ValueOf(x), func(l reflect.Value) {
			if l.Cap() > 0 {
				all = append(all, room{l.Pointer(), l.Pointer() + uintptr(l.Cap())*l.Type().Elem().Size()})
			}
		})
	}
	return all
}

// share tells whether two of these rooms have a byte in common.
func share(l []room) bool {
	slices.SortFunc(l, func(a, b room) int {
		if a.from < b.from {
			return -1
		}
		return 1
	})
	for n := 1; n < len(l); n++ {
		if l[n].from < l[n-1].to {
			return true
		}
	}
	return false
}

// remade is a value in memory of its own; its lists have more room than they need, in which the last of them stands again, too.
func remade[T any](x T) T {
	return remake(reflect.ValueOf(x), 2).Interface().(T)
}

// copied is a value in memory of its own, of whose lists all room is shown.
func copied[T any](x T) T {
	return remake(reflect.ValueOf(x), 0).Interface().(T)
}

func remake(v reflect.Value, more int) reflect.Value {
	made := reflect.New(v.Type()).Elem()
	switch v.Kind() {
	case reflect.Struct:
		for n := range v.NumField() {
			made.Field(n).Set(remake(v.Field(n), more))
		}
	case reflect.Slice:
		shown := v.Len()
		if more == 0 {
			shown = v.Cap()
		}
		made = reflect.MakeSlice(v.Type(), shown, shown+more)
		whole := made.Slice(0, shown+more)
		for n := range whole.Len() {
			if shown > 0 {
				whole.Index(n).Set(remake(v.Slice(0, shown).Index(min(n, shown-1)), more))
			}
		}
	default:
		made.Set(v)
	}
	return made
}

// spoil puts zero in all lists of a value, and in their spare room.
func spoil(x any) {
	eachList(reflect.ValueOf(x), func(l reflect.Value) {
		for n := range l.Cap() {
			l.Slice(0, l.Cap()).Index(n).SetZero()
		}
	})
}

// P19.8: Run changes and keeps nothing, and what it answers is new.
func TestRunMemory(t *testing.T) {
	r := rand.New(rand.NewSource(1981))
	seen := map[api.Errno]int{}
	accepted := 0
	for n := range 20000 {
		g := anyGrammar(r, 2, 3, 6, 3)
		y := anyTable(r, g, 1+r.Intn(5))
		if n%20 == 0 {
			g, y = nest(), nestTable()
		}
		g, y = remade(g), remade(y)
		w := remade(pick(r, [][]api.Token{nil, textOf(0), textOf(0, 0), textOf(0, 2, 1)}))
		sameG, sameY, sameW := copied(g), copied(y), copied(w)
		most := 1 + r.Intn(40)
		result, e := interp.Run(g, y, w, most)
		if !reflect.DeepEqual(copied(g), sameG) || !reflect.DeepEqual(copied(y), sameY) || !reflect.DeepEqual(copied(w), sameW) {
			t.Fatal("an argument is changed:", g, y, w)
		}
		seen[e]++
		other, f := interp.Run(g, y, w, most)
		if e != f || !sameResult(result, other) {
			t.Fatal("another answer:", g, y, w, result, other)
		}
		if share(rooms(g, y, w, result, other)) {
			t.Fatal("memory is shared:", g, y, w)
		}
		m, want := ran(g, y, w, most)
		spoil(g)
		spoil(y)
		spoil(w)
		spoil(other)
		if e != want || e == api.OK && !sameResult(result, m.result) {
			t.Fatal("an argument is kept:", result, m.result)
		}
		if result.Accepted {
			accepted++
		}
	}
	if seen[api.OK] < 500 || seen[api.ErrMany] < 500 || seen[api.ErrInternal] < 500 || accepted < 200 {
		t.Error("too seldom:", seen, accepted)
	}
}

// P19.8: Parse changes and keeps nothing, and what it answers is new.
func TestParseMemory(t *testing.T) {
	for _, text := range texts() {
		v := validOf(t, text)
		g, y := v.Grammar(), v.Table()
		accepted := 0
		eachText(kindsOf(g)[:min(5, len(g.Terms))], 4, func(l []int) {
			w := remade(textOf(l...))
			same := copied(w)
			one, _ := interp.Parse(v, w)
			other, _ := interp.Parse(v, w)
			if !reflect.DeepEqual(copied(w), same) {
				t.Fatal("an argument is changed:", text, w)
			}
			if share(rooms(w, one, other)) {
				t.Fatal("memory is shared:", text, w)
			}
			spoil(w)
			spoil(one)
			if m, _ := ran(g, y, same[:len(w)], other.Steps); !sameResult(other, m.result) {
				t.Fatal("an argument is kept:", text, other, m.result)
			}
			if other.Accepted {
				accepted++
			}
		})
		if g2, y2 := v.Grammar(), v.Table(); !reflect.DeepEqual(g, g2) || !reflect.DeepEqual(y, y2) {
			t.Error("what was taken has changed:", text)
		}
		if accepted == 0 && len(g.Terms) < 8 {
			t.Error("too seldom:", text)
		}
	}
}

// P19.8: what a machine answers is new each time, and its copies share nothing with it that can be seen.
func TestMachineMemory(t *testing.T) {
	w := textOf(0, 0, 2, 1, 1)
	for _, defaults := range []bool{false, true} {
		m := started(t, merged(nest(), defaults), w)
		stacks, nexts := [][]int{m.Stack(), m.Stack(), m.Copy().Stack()}, [][]int{m.Next(), m.Next(), m.Copy().Next()}
		if share(rooms(stacks, nexts)) {
			t.Error("Stack and Next share memory:", stacks, nexts)
		}
		same := [][]int{slices.Clone(stacks[0]), slices.Clone(nexts[0])}
		spoil(stacks)
		spoil(nexts)
		if !slices.Equal(m.Stack(), same[0]) || !slices.Equal(m.Next(), same[1]) || len(same[1]) == 0 {
			t.Error("they are kept:", m.Stack(), m.Next())
		}
		c, late := m.Copy(), m.Copy()
		first, _ := m.End()
		second, _ := m.End()
		third, _ := c.End()
		fourth, _ := m.Copy().End()
		if !first.Accepted || share(rooms(w, first, second, third, fourth)) {
			t.Error("End shares memory:", first, second, third, fourth)
		}
		want, _ := interp.Parse(merged(nest(), defaults), w)
		spoil(first)
		spoil(third)
		for _, one := range []*interp.Machine{m, c, late, m.Copy(), late.Copy()} {
			if r, e := one.End(); e != api.OK || !sameResult(r, want) {
				t.Error("an answer is kept:", r, e)
			}
		}
		if !sameResult(second, want) || !sameResult(fourth, want) {
			t.Error("an answer is kept by another:", second, fourth)
		}
	}
}

// P19.8: one list may stand in many places of what is handed in.
func TestSharedArguments(t *testing.T) {
	right := []api.Sym{term(0), term(0), term(0)}
	g := grammarOf(1, 1, 0, prod(0, right[:1]...), prod(0, right[:2]...), prod(0, right...))
	y := merged(g, true).Table()
	none, nowhere := make([]api.Action, 2), []int{-1}
	for n, row := range y.Rows {
		if row.Default != -1 {
			y.Rows[n].Acts = none
		}
		if row.Gotos[0] == -1 {
			y.Rows[n].Gotos = nowhere
		}
	}
	for length := range 5 {
		if e := heldOfRun(t, g, y, long(0, length), 9); e != api.OK {
			t.Error(length, e)
		}
	}
}

// P3 of DOC.md: the same answers, asked again and side by side; copies of one machine may go on side by side.
func TestAgain(t *testing.T) {
	v := validOf(t, texts()[0])
	w := textOf(4, 0, 2, 4, 1, 4, 3)
	want, e := interp.Parse(v, w)
	if e != api.OK {
		t.Fatal(e)
	}
	m := started(t, v, w[:2])
	done := make(chan bool)
	for range 8 {
		c := m.Copy()
		go func() {
			r, e := interp.Parse(v, w)
			ok := e == api.OK && sameResult(r, want)
			d := c.Copy()
			for _, one := range []*interp.Machine{c, d} {
				for _, tok := range w[2:] {
					next := one.Next()
					went, _ := one.Push(tok)
					ok = ok && went == slices.Contains(next, tok.Kind)
				}
				r, e := one.End()
				ok = ok && e == api.OK && sameResult(r, want)
			}
			done <- ok
		}()
	}
	for range 8 {
		if !<-done {
			t.Error("another answer")
		}
	}
}
