package pgen_test

import (
	"math/rand"
	"reflect"
	"slices"
	"testing"

	"gantry/api"
	"gantry/pgen"
)

// eachList goes over all lists in a value, those in spare room, too; the inner ones first.
func eachList(v reflect.Value, do func(l reflect.Value)) {
	switch v.Kind() {
	case reflect.Struct:
		for n := range v.NumField() {
			eachList(v.Field(n), do)
		}
	case reflect.Slice:
		whole := v.Slice(0, v.Cap())
		for n := range whole.Len() {
			eachList(whole.Index(n), do)
		}
		do(v)
	}
}

// room is the memory of a list, from the first byte to that behind the last.
type room struct {
	from, to uintptr
}

// rooms are the memory of all lists in values.
func rooms(values ...any) []room {
	var all []room
	for _, x := range values {
		eachList(reflect.ValueOf(x), func(l reflect.Value) {
			if l.Cap() > 0 {
				all = append(all, room{l.Pointer(), l.Pointer() + uintptr(l.Cap())*l.Type().Elem().Size()})
			}
		})
	}
	return all
}

// share tells whether two of these rooms have a byte in common.
func share(l []room) bool {
	slices.SortFunc(l, func(a, b room) int {
		if a.from < b.from {
			return -1
		}
		return 1
	})
	for n := 1; n < len(l); n++ {
		if l[n].from < l[n-1].to {
			return true
		}
	}
	return false
}

// remade is a value in memory of its own; its lists have more room than they need, in which the last of them stands again, too.
func remade[T any](x T) T {
	return remake(reflect.ValueOf(x), 2).Interface().(T)
}

// copied is a value in memory of its own, of whose lists all room is shown.
func copied[T any](x T) T {
	return remake(reflect.ValueOf(x), 0).Interface().(T)
}

func remake(v reflect.Value, more int) reflect.Value {
	made := reflect.New(v.Type()).Elem()
	switch v.Kind() {
	case reflect.Struct:
		for n := range v.NumField() {
			made.Field(n).Set(remake(v.Field(n), more))
		}
	case reflect.Slice:
		shown := v.Len()
		if more == 0 {
			shown = v.Cap()
		}
		made = reflect.MakeSlice(v.Type(), shown, shown+more)
		whole := made.Slice(0, shown+more)
		for n := range whole.Len() {
			if shown > 0 {
				whole.Index(n).Set(remake(v.Slice(0, shown).Index(min(n, shown-1)), more))
			}
		}
	default:
		made.Set(v)
	}
	return made
}

// spoil puts zero in all lists of a value, and in their spare room.
func spoil(x any) {
	eachList(reflect.ValueOf(x), func(l reflect.Value) {
		for n := range l.Cap() {
			l.Slice(0, l.Cap()).Index(n).SetZero()
		}
	})
}

// calls asks every call that takes bytes, and tells what they answer.
func calls(g, b []byte) []any {
	read, e, at := pgen.ReadGrammar(g)
	one, two := compile(g), force(g)
	v, f, there := pgen.Load(g, b)
	return []any{read, e, at, one.frame, one.report, one.err, one.at, two.frame, two.report, two.err, two.at, v.Made(), v.Grammar(), v.Table(), f, there}
}

// P20.11: calls of bytes change and keep nothing, and what they answer is new.
func TestBytesMemory(t *testing.T) {
	r := rand.New(rand.NewSource(2011))
	seen := map[api.Errno]int{}
	for range 3000 {
		g := anyGrammar(r, 3, 3, 6, 4)
		code, frame := remade(codeOf(g)), remade(force(codeOf(g)).frame)
		if r.Intn(2) == 0 {
			code = remade(textOf(g))
		}
		sameCode, sameFrame := copied(code), copied(frame)
		one, two := calls(code, frame), calls(code, frame)
		if !reflect.DeepEqual(copied(code), sameCode) || !reflect.DeepEqual(copied(frame), sameFrame) {
			t.Fatal("an argument is changed:", g)
		}
		if !reflect.DeepEqual(one, two) {
			t.Fatal("another answer:", g)
		}
		if share(rooms(append(slices.Concat(one, two), code, frame)...)) {
			t.Fatal("memory is shared:", g)
		}
		for _, x := range one {
			spoil(x)
		}
		third := calls(code, frame)
		spoil(code)
		spoil(frame)
		if !reflect.DeepEqual(third, two) {
			t.Fatal("an answer or an argument is kept:", g)
		}
		seen[two[5].(api.Errno)]++
	}
	if seen[api.OK] < 50 || seen[api.ErrReport] < 50 {
		t.Error("too seldom:", seen)
	}
}

// P20.11: what Load took stays what it is, whatever becomes of the bytes and of answers.
func TestLoadedMemory(t *testing.T) {
	for _, text := range people() {
		code := []byte(text)
		frame := compile(code).frame
		v, e, at := pgen.Load(code, frame)
		if e != api.OK {
			t.Fatal(text, e, at)
		}
		g, y := v.Grammar(), v.Table()
		spoil(code)
		spoil(frame)
		eachWord(kindsOf(g)[:min(4, len(g.Terms))], 4, func(l []int) {
			w := remade(tokens(l...))
			same := copied(w)
			one, _ := pgen.Parse(v, w)
			two, _ := pgen.Parse(v, w)
			if !reflect.DeepEqual(copied(w), same) {
				t.Fatal("an argument is changed:", text, w)
			}
			if share(rooms(w, one, two)) {
				t.Fatal("memory is shared:", text, w)
			}
			spoil(w)
			spoil(one)
			if three, _ := pgen.Parse(v, same[:len(w)]); !reflect.DeepEqual(two, three) {
				t.Fatal("an argument or an answer is kept:", text, two, three)
			}
		})
		if !reflect.DeepEqual(g, v.Grammar()) || !reflect.DeepEqual(y, v.Table()) {
			t.Error("what was taken has changed:", text)
		}
	}
}

// P20.11: results of names are new each time.
func TestNamesMemory(t *testing.T) {
	v := loadedOf(t, nest)
	one, _, _ := pgen.ParseNames(v, "'(' '(' 'x' ')' ')'")
	two, _, _ := pgen.ParseNames(v, "'(' '(' 'x' ')' ')'")
	if !one.Accepted || share(rooms(one, two)) {
		t.Error("memory is shared:", one, two)
	}
	spoil(one)
	if three, _, _ := pgen.ParseNames(v, "'(' '(' 'x' ')' ')'"); !reflect.DeepEqual(two, three) {
		t.Error("an answer is kept:", two, three)
	}
}

// P20.11: what is printed is not changed.
func TestPrintMemory(t *testing.T) {
	for _, c := range conflicting() {
		g, r := remade(readOf(t, c.text)), remade(compile([]byte(c.text)).report)
		sameG, sameR := copied(g), copied(r)
		pgen.PrintReport(g, r)
		if !reflect.DeepEqual(copied(g), sameG) || !reflect.DeepEqual(copied(r), sameR) {
			t.Error("an argument is changed:", c.text)
		}
	}
	v := loadedOf(t, nest)
	result, _, _ := pgen.ParseNames(v, "'(' 'x' ')'")
	g, result := remade(v.Grammar()), remade(result)
	sameG, same := copied(g), copied(result)
	pgen.PrintResult(g, result)
	if !reflect.DeepEqual(copied(g), sameG) || !reflect.DeepEqual(copied(result), same) {
		t.Error("an argument is changed")
	}
}

// P20.11: nil and empty lists are one, and one list may stand in many places of what is handed in.
func TestSharedLists(t *testing.T) {
	g := threeProds()
	reduce := []int{-1, 0, 1, 2}
	c := []api.Conflict{conflict(0, 0, -1, reduce[:1]...), conflict(1, 1, -1, reduce[:2]...), conflict(2, 2, -1, reduce...)}
	s, e := pgen.PrintReport(g, api.Report{Undecided: c, Decided: c[1:], Decisions: []api.Decision{{Kind: api.DecideShift, Dropped: reduce}, {Dropped: reduce}}})
	want := "state 0 under t0: accept\nstate 1 under t1: accept, reduce 0\nstate 2 under $: accept, reduce 0, reduce 1, reduce 2\n" +
		"state 1 under t1: accept, reduce 0 -> shift\nstate 2 under $: accept, reduce 0, reduce 1, reduce 2 -> none\n"
	if e != api.OK || s != want {
		t.Errorf("P20.6: %q, %v", s, e)
	}
	v := loadedOf(t, "%term a S : a S | %empty ;")
	one, e := pgen.Parse(v, nil)
	two, f := pgen.Parse(v, []api.Token{})
	if e != api.OK || f != api.OK || !one.Accepted || !reflect.DeepEqual(one, two) {
		t.Error("P20.5: no tokens:", one, two)
	}
	code := compile([]byte(nest)).frame
	both := slices.Concat([]byte(nest), code)
	if v, e, at := pgen.Load(both[:len(nest)], both[len(nest):]); e != api.OK || !v.Made() {
		t.Error("P20.4: two pieces of one list:", e, at)
	}
}

// P3 of DOC.md: the same answers, asked again and side by side.
func TestAgain(t *testing.T) {
	text := []byte(people()[0])
	want := compile(text)
	v, _, _ := pgen.Load(text, want.frame)
	names := "'n' '+' '(' 'n' '*' 'n' ')'"
	result, _, _ := pgen.ParseNames(v, names)
	done := make(chan bool)
	for range 8 {
		go func() {
			got := compile(text)
			own, e, _ := pgen.Load(text, got.frame)
			one, _, _ := pgen.ParseNames(v, names)
			two, _, _ := pgen.ParseNames(own, names)
			done <- e == api.OK && got.same(want) && one.Accepted && reflect.DeepEqual(one, result) && reflect.DeepEqual(two, result)
		}()
	}
	for range 8 {
		if !<-done {
			t.Error("another answer")
		}
	}
}
