package agenda_test

import (
	"fmt"
	"math"
	"runtime"
	"slices"
	"testing"
	"weak"

	"rampart/agenda"
	"rampart/api"
)

// Rules 1 and 3: an agenda that is nil, or that New did not make, or made with a nil less, whatever it is asked.
func TestNotMade(t *testing.T) {
	notMade := map[string]*agenda.Agenda[thing]{"nil": nil, "hand-made": {}, "new": new(agenda.Agenda[thing]), "without less": agenda.New[thing](nil)}
	for name, a := range notMade {
		for _, id := range []int{-1, 0, 1, 2, math.MinInt, math.MaxInt} {
			for kind, want := range map[string]told{"Push": {e: 4}, "Pop": {}, "Set": {e: 4}, "Drop": {e: 4}, "Drain": {all: "[]"}} {
				if got := do(a, deed{kind: kind, id: id, x: thing{3, 4}}); got != want {
					t.Errorf("%s: %s(%d) = %+v", name, kind, id, got)
				}
			}
			if x, first, ok := a.First(); x != (thing{}) || first != 0 || ok {
				t.Errorf("%s: First() = %v, %d, %v", name, x, first, ok)
			}
			if x, ok := a.Get(id); x != (thing{}) || ok {
				t.Errorf("%s: Get(%d) = %v, %v", name, id, x, ok)
			}
			if n := a.Len(); n != 0 {
				t.Errorf("%s: Len() = %d", name, n)
			}
		}
		if a.Drain() == nil {
			t.Fatalf("%s: Drain() = nil", name)
		}
		a.Drain()(nil)
	}
}

// P9.1 to P9.3, rules 1 and 2: all rows of six deeds, with two keys, tell what the plain agenda tells, the refused ones too.
func TestAllShortRows(t *testing.T) {
	var deeds []deed
	for key := range 2 {
		deeds = append(deeds, deed{kind: "Push", x: thing{key: key}})
		for id := 1; id <= 3; id++ {
			deeds = append(deeds, deed{kind: "Set", id: id, x: thing{key, id}})
		}
	}
	for id := 1; id <= 3; id++ {
		deeds = append(deeds, deed{kind: "Drop", id: id})
	}
	deeds = append(deeds, deed{kind: "Pop"}, deed{kind: "Drain", id: 2})
	rising := orders()["rising"]
	row := make([]deed, 5)
	for i := range len(deeds) * len(deeds) * len(deeds) * len(deeds) * len(deeds) {
		for at := range row {
			row[at] = deeds[i%len(deeds)]
			row[at].x.tag += 10 * at
			i /= len(deeds)
		}
		endsAlike(t, rising, append([]deed{deeds[0]}, row...))
	}
}

// endsAlike does deeds, looks at what each tells, and at how the agenda stands in the end.
func endsAlike(t *testing.T, l less, deeds []deed) {
	a, p := agenda.New(l), &plain{less: l}
	for _, d := range deeds {
		if got, want := do(a, d), p.do(d); got != want {
			t.Fatalf("%v: at %v %+v, want %+v", deeds, d, got, want)
		}
	}
	if s := wrong(a, p); s != "" {
		t.Fatalf("%v: %s", deeds, s)
	}
}

// P9.1 to P9.5, rules 1 and 2: long rows of deeds, wrong ones among them, under orders of all kinds.
func TestLongRows(t *testing.T) {
	d := dice(9)
	for _, l := range orders() {
		for round := range 20 {
			follow(t, l, d.deeds(150, 1+round, 1+d.to(30)))
		}
		follow(t, l, d.deeds(400, 100, 40))
	}
}

// Where less is no strict weak order, all calls end, and all else is as it is: numbers, Get, Set, Drop, Len, that First tells what Pop takes; no entry is lost.
func TestWrongLess(t *testing.T) {
	d := dice(91)
	for name, l := range wrongs() {
		for round := range 30 {
			a, there := agenda.New(l()), map[int]thing{}
			for _, x := range d.deeds(200, 40, 1+round) {
				if x.kind == "Drain" {
					x.kind = "Pop"
				}
				first, id, ok := a.First()
				got := do(a, x)
				if want := (told{x: first, id: id, ok: ok}); x.kind == "Pop" && (got != want || ok != (len(there) > 0) || ok && there[id] != first) {
					t.Fatalf("%s: Pop() = %+v, First() was %+v", name, got, want)
				}
				keep(there, x, got)
				hasAll(t, name, a, there)
			}
			sameThings(t, name, slices.Collect(a.Drain()), there)
		}
	}
}

// hasAll looks whether an agenda has what is there, under its numbers.
func hasAll(t testing.TB, name string, a *agenda.Agenda[thing], there map[int]thing) {
	t.Helper()
	if a.Len() != len(there) {
		t.Fatalf("%s: Len() = %d, want %d", name, a.Len(), len(there))
	}
	for id, want := range there {
		if x, ok := a.Get(id); x != want || !ok {
			t.Fatalf("%s: Get(%d) = %v, %v, want %v", name, id, x, ok, want)
		}
	}
}

// Rule 1: a less that asks the agenda, or even changes it, while it is asked: all calls end, none panics, and no entry is lost or doubled.
func TestLessThatMeddles(t *testing.T) {
	for seed := range 300 {
		d, deep := dice(seed), 0
		var a *agenda.Agenda[thing]
		taken := map[int]int{}
		meddle := func() {
			x := deed{kind: kinds[d.to(5)], id: 1 + d.to(40), x: d.thing(9)}
			if x.kind == "Drain" {
				x.kind = "Push"
			}
			got := do(a, x)
			if x.kind == "Drop" && got.e == api.OK {
				taken[x.id]++
			}
			if x.kind == "Pop" && got.ok {
				taken[got.id]++
			}
			a.First()
			a.Get(x.id)
		}
		calm := false
		a = agenda.New(func(p, q thing) bool {
			if !calm && deep < 2 && d.to(3) == 0 {
				deep++
				meddle()
				deep--
			}
			return p.key < q.key
		})
		for range 80 {
			meddle()
		}
		calm = true
		last, _ := a.Push(thing{})
		there := map[int]thing{}
		for id := 1; id <= last; id++ {
			x, ok := a.Get(id)
			if ok {
				there[id] = x
			}
			if taken[id] > 1 || ok == (taken[id] == 1) {
				t.Fatalf("seed %d: %d was taken out %d times, Get tells %v", seed, id, taken[id], ok)
			}
		}
		hasAll(t, fmt.Sprint("seed ", seed), a, there)
		sameThings(t, fmt.Sprint("seed ", seed), slices.Collect(a.Drain()), there)
	}
}

// Rule 5: agendas that are given the same tell the same, whatever others are given meanwhile, and whatever is asked.
func TestApart(t *testing.T) {
	d := dice(95)
	l := orders()["by tens"]
	alone, asked, other := agenda.New(l), agenda.New(l), agenda.New(l)
	p := &plain{less: l}
	for i, x := range d.deeds(600, 30, 50) {
		want := do(alone, x)
		do(other, d.deeds(i%5+1, 30, 50)[i%5])
		for id := range 20 {
			asked.Get(id)
			asked.Len()
			asked.First()
			asked.Drain()
		}
		if got := do(asked, x); got != want {
			t.Fatalf("%v: %+v, and %+v", x, got, want)
		}
		p.do(x)
	}
	for _, a := range []*agenda.Agenda[thing]{alone, asked} {
		if s := wrong(a, p); s != "" {
			t.Error(s)
		}
	}
}

// Rule 5: even where less is no order, what is told hangs on what was given alone.
func TestSameAgain(t *testing.T) {
	for name, l := range wrongs() {
		d := dice(96)
		deeds := d.deeds(500, 50, 20)
		a, b := agenda.New(l()), agenda.New(l())
		for _, x := range deeds {
			if got, want := do(a, x), do(b, x); got != want {
				t.Fatalf("%s: %v: %+v, and %+v", name, x, got, want)
			}
		}
	}
}

// Rule 1: two handles on one agenda, one of them a copy of the struct, are one agenda.
func TestCopied(t *testing.T) {
	a := filled(t, 3, 1, 2)
	b := *a
	pushes(t, &b, 0, 4)
	pushes(t, a, 5, 5)
	must(t, b.Drop(2), api.OK, "Drop(2)")
	must(t, a.Drop(2), api.ErrGone, "Drop(2)")
	empties(t, a, pair{0, 4}, pair{2, 3}, pair{3, 1}, pair{5, 5})
	isEmpty(t, &b)
}

// Entries of any kind: such as can't be compared, such as are nothing, and interfaces, nil ones among them.
func TestAnyKind(t *testing.T) {
	lists := agenda.New(func(a, b []int) bool { return len(a) < len(b) })
	lists.Push([]int{1, 2})
	lists.Push(nil)
	lists.Push([]int{})
	if x, id, ok := lists.First(); x != nil || id != 2 || !ok {
		t.Errorf("First() = %v, %d, %v", x, id, ok)
	}
	if x, ok := lists.Get(1); !slices.Equal(x, []int{1, 2}) || !ok {
		t.Errorf("Get(1) = %v, %v", x, ok)
	}
	nothings := agenda.New(func(a, b struct{}) bool { return false })
	for range 5 {
		nothings.Push(struct{}{})
	}
	for want := 1; want <= 5; want++ {
		if _, id, ok := nothings.Pop(); id != want || !ok {
			t.Errorf("Pop() = %d, %v", id, ok)
		}
	}
	calls := agenda.New(func(a, b func() int) bool { return a() < b() })
	calls.Push(func() int { return 2 })
	calls.Push(func() int { return 1 })
	if f, id, ok := calls.Pop(); f() != 1 || id != 2 || !ok {
		t.Errorf("Pop() = %d, %v", id, ok)
	}
	texts := agenda.Order[any](func(a, b any) bool { return fmt.Sprint(a) < fmt.Sprint(b) }, "b", nil, 3, []int{1}, error(nil), error(api.ErrGone))
	if got := fmt.Sprint(texts); got != "[3 <nil> <nil> [1] b rampart: errno 90]" {
		t.Errorf("Order: %s", got)
	}
}

// Each call asks less but a few times: an agenda is a heap.
func TestFewQuestions(t *testing.T) {
	const many, most = 1 << 14, 2*14 + 14
	asked, d := 0, dice(97)
	a := agenda.New(func(a, b int) bool { asked++; return a < b })
	few := func(what string) {
		t.Helper()
		if asked > most {
			t.Fatalf("%s asks %d times", what, asked)
		}
		asked = 0
	}
	for i := range many {
		a.Push(-i)
		few("Push")
	}
	for range many {
		a.Set(1+d.to(many), d.to(many))
		few("Set")
	}
	for i := range many / 2 {
		a.Drop(1 + i)
		few("Drop")
	}
	last := math.MinInt
	for x := range a.Drain() {
		if x < last {
			t.Fatalf("%d is told behind %d", x, last)
		}
		last = x
		few("Drain")
	}
}

// load is a thing that can be seen to be let go.
type load struct {
	key  int
	rest [64]*int
}

// What was taken out, or set to something else, is not kept.
func TestLetsGo(t *testing.T) {
	a := agenda.New(func(a, b *load) bool { return a.key < b.key })
	var gone []weak.Pointer[load]
	func() {
		for i := range 40 {
			x := &load{key: i * 7 % 40}
			gone = append(gone, weak.Make(x))
			a.Push(x)
		}
		for i := range 10 {
			a.Pop()
			a.Drop(40 - i)
			a.Set(11+i, &load{key: i})
		}
		some(a.Drain(), 100)
	}()
	for range 100 {
		runtime.GC()
		gone = slices.DeleteFunc(gone, func(p weak.Pointer[load]) bool { return p.Value() == nil })
		if len(gone) == 0 {
			break
		}
	}
	if len(gone) > 0 {
		t.Errorf("%d things are kept", len(gone))
	}
	runtime.KeepAlive(a)
}

// Any bytes, read as deeds.
func FuzzAgenda(f *testing.F) {
	f.Add([]byte{0, 0, 5, 0, 0, 3, 0, 0, 5, 2, 2, 9, 3, 1, 0, 1, 0, 0, 4, 2, 0})
	f.Add([]byte{1, 0, 0, 4, 9, 9})
	f.Add([]byte{})
	f.Fuzz(func(t *testing.T, b []byte) {
		if len(b) > 600 {
			return
		}
		var deeds []deed
		for c := range slices.Chunk(b, 3) {
			if len(c) == 3 {
				deeds = append(deeds, deed{kinds[c[0]%5], int(int8(c[1])), thing{int(int8(c[2])), len(deeds)}})
			}
		}
		for _, l := range orders() {
			follow(t, l, deeds)
		}
	})
}
