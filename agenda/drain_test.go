package agenda_test

import (
	"fmt"
	"slices"
	"testing"

	"rampart/agenda"
)

// P9.3: Drain as far as it is ranged over: what was told is taken out, the rest stays, under its numbers.
func TestDrainInPart(t *testing.T) {
	for upto := 1; upto <= 6; upto++ {
		a := filled(t, 30, 10, 20, 10, 50)
		all := inOrder([]int{30, 10, 20, 10, 50})
		var want []int
		for _, p := range all[:min(upto, 5)] {
			want = append(want, p.x)
		}
		if got := some(a.Drain(), upto); !slices.Equal(got, want) {
			t.Errorf("up to %d: %v, want %v", upto, got, want)
		}
		if n := a.Len(); n != 5-len(want) {
			t.Errorf("up to %d: Len() = %d", upto, n)
		}
		empties(t, a, all[len(want):]...)
	}
}

// P9.3: one iterator, ranged over again and again, goes on where it was broken off, and tells what came since.
func TestDrainAgain(t *testing.T) {
	a := agenda.New(rises)
	tell := a.Drain()
	a.Push(3)
	a.Push(1)
	a.Push(2)
	for _, want := range []int{1, 2} {
		if got := some(tell, 1); !slices.Equal(got, []int{want}) {
			t.Errorf("told: %v, want %d", got, want)
		}
	}
	a.Push(0)
	a.Push(9)
	if got := slices.Collect(tell); !slices.Equal(got, []int{0, 3, 9}) {
		t.Errorf("told: %v", got)
	}
	for range 2 {
		for x := range tell {
			t.Errorf("told: %d, of nothing", x)
		}
	}
	a.Push(4)
	if got := slices.Collect(tell); !slices.Equal(got, []int{4}) {
		t.Errorf("told: %v", got)
	}
	isEmpty(t, a)
}

// P9.3: nothing is taken out ahead of the ranging, nor ahead of its turn in it.
func TestDrainOneByOne(t *testing.T) {
	a := filled(t, 2, 3, 1)
	tell := a.Drain()
	if a.Len() != 3 {
		t.Fatalf("Len() = %d: Drain took something out", a.Len())
	}
	left := 3
	for x := range tell {
		left--
		if a.Len() != left {
			t.Errorf("at %d: Len() = %d, want %d", x, a.Len(), left)
		}
		if y, _, ok := a.First(); ok != (left > 0) || ok && y != x+1 {
			t.Errorf("at %d: First() = %d, %v", x, y, ok)
		}
	}
}

// P9.3: what is done in the loop is seen in it: entries that come ahead and behind, that are changed, dropped, popped, drained.
func TestDrainWhileChanged(t *testing.T) {
	deeds := map[string]struct {
		do   func(a *agenda.Agenda[int])
		want []int
	}{
		"nothing":      {func(a *agenda.Agenda[int]) {}, []int{10, 20, 30, 40}},
		"Push ahead":   {func(a *agenda.Agenda[int]) { a.Push(5) }, []int{10, 20, 5, 30, 40}},
		"Push between": {func(a *agenda.Agenda[int]) { a.Push(35) }, []int{10, 20, 30, 35, 40}},
		"Push behind":  {func(a *agenda.Agenda[int]) { a.Push(50); a.Push(45) }, []int{10, 20, 30, 40, 45, 50}},
		"Push alike":   {func(a *agenda.Agenda[int]) { a.Push(20) }, []int{10, 20, 20, 30, 40}},
		"Set behind":   {func(a *agenda.Agenda[int]) { a.Set(1, 60) }, []int{10, 20, 40, 60}},
		"Set ahead":    {func(a *agenda.Agenda[int]) { a.Set(4, 0) }, []int{10, 20, 0, 30}},
		"Set of told":  {func(a *agenda.Agenda[int]) { a.Set(3, 0) }, []int{10, 20, 30, 40}},
		"Drop":         {func(a *agenda.Agenda[int]) { a.Drop(1) }, []int{10, 20, 40}},
		"Drop of told": {func(a *agenda.Agenda[int]) { a.Drop(2) }, []int{10, 20, 30, 40}},
		"Pop":          {func(a *agenda.Agenda[int]) { a.Pop() }, []int{10, 20, 40}},
		"Drain":        {func(a *agenda.Agenda[int]) { some(a.Drain(), 9) }, []int{10, 20}},
	}
	for name, d := range deeds {
		a := filled(t, 30, 10, 20, 40)
		var got []int
		for x := range a.Drain() {
			got = append(got, x)
			if len(got) == 2 {
				d.do(a)
			}
		}
		if !slices.Equal(got, d.want) {
			t.Errorf("%s: %v, want %v", name, got, d.want)
		}
		isEmpty(t, a)
	}
}

// P9.3: each entry that is told pushes others, till they come to an end.
func TestDrainThatGrows(t *testing.T) {
	a := filled(t, 1)
	var got []int
	for x := range a.Drain() {
		got = append(got, x)
		if x < 64 {
			a.Push(2 * x)
			a.Push(2*x + 1)
		}
	}
	if len(got) != 127 || !slices.IsSorted(got) || got[126] != 127 {
		t.Errorf("told: %v", got)
	}
	isEmpty(t, a)
	pushes(t, a, 0, 128)
}

// Rule 1: an iterator that is called with nothing to tell to takes nothing out.
func TestDrainToNobody(t *testing.T) {
	a := filled(t, 2, 1)
	a.Drain()(nil)
	empties(t, a, pair{1, 2}, pair{2, 1})
}

// P9.3, P9.4: Order of nothing, of one, of many alike ones, of many: in the order of less, alike ones as they came.
func TestOrder(t *testing.T) {
	d := dice(93)
	for name, l := range orders() {
		for _, n := range []int{0, 1, 2, 3, 4, 5, 7, 8, 9, 30, 31, 200, 1000} {
			for _, keys := range []int{1, 2, 10, 1 << 20} {
				var in []thing
				for range n {
					in = append(in, d.thing(keys))
				}
				got := agenda.Order(l, in...)
				want := slices.Clone(in)
				slices.SortStableFunc(want, func(a, b thing) int {
					if l(a, b) {
						return -1
					}
					if l(b, a) {
						return 1
					}
					return 0
				})
				if !slices.Equal(got, want) {
					t.Fatalf("%s: Order(%v) = %v, want %v", name, in, got, want)
				}
			}
		}
	}
}

// P9.3: Order tells as an agenda into which all are pushed, even where less is none that may be.
func TestOrderAsAgenda(t *testing.T) {
	d := dice(94)
	for name, l := range wrongs() {
		for n := range 40 {
			var in []thing
			for range n {
				in = append(in, d.thing(9))
			}
			a := agenda.New(l())
			for _, x := range in {
				a.Push(x)
			}
			if got, want := agenda.Order(l(), in...), slices.Collect(a.Drain()); !slices.Equal(got, want) {
				t.Fatalf("%s: Order(%v) = %v, want %v", name, in, got, want)
			}
		}
	}
}

// Rules 3 and 4: Order with a nil less tells nothing, whatever it is handed.
func TestOrderWithoutLess(t *testing.T) {
	for _, l := range [][]int{nil, {}, {1}, {2, 1, 3}} {
		if got := agenda.Order(nil, l...); len(got) != 0 {
			t.Errorf("Order(nil, %v) = %v", l, got)
		}
	}
	if got := agenda.Order[int](nil); len(got) != 0 {
		t.Errorf("Order(nil) = %v", got)
	}
}

// Rule 4: what is handed in stays as it was, up to its capacity, and the answer shares nothing with it, nor with another answer.
func TestOrderIsNew(t *testing.T) {
	for n := range 6 {
		full := []int{5, 3, 4, 3, 1, 7, 7}
		was := slices.Clone(full)
		l := full[:n]
		one, two := agenda.Order(rises, l...), agenda.Order(rises, l...)
		if !slices.Equal(full, was) {
			t.Errorf("%v became %v", was, full)
		}
		one = one[:cap(one)]
		for i := range one {
			one[i] = 99
		}
		if !slices.Equal(full, was) || slices.Contains(two[:cap(two)], 99) {
			t.Errorf("an answer of %v shares memory: %v, %v", l, full, two)
		}
		for i := range full {
			full[i] = 77
		}
		if slices.Contains(two, 77) {
			t.Errorf("an answer keeps what was handed in: %v", two)
		}
	}
}

// P9.4: of what is drained behind any deeds none comes ahead of one told before it, and alike ones come in the order of their numbers.
func TestInOrder(t *testing.T) {
	d := dice(94)
	for name, l := range orders() {
		for round := range 40 {
			a := agenda.New(l)
			for _, x := range d.deeds(200, 60, 1+round) {
				do(a, x)
			}
			var told []plainEntry
			for a.Len() > 0 {
				x, id, _ := a.Pop()
				told = append(told, plainEntry{x, id})
			}
			for i, b := range told {
				for _, c := range told[:i] {
					if l(b.x, c.x) || !l(c.x, b.x) && b.id < c.id {
						t.Fatalf("%s: %v is told behind %v", name, b, c)
					}
				}
			}
		}
	}
}

// P9.5: what is drained is all that was pushed and not taken out, each once, as it was set last.
func TestAll(t *testing.T) {
	d := dice(95)
	for name, l := range orders() {
		for round := range 40 {
			a, there := agenda.New(l), map[int]thing{}
			for _, x := range d.deeds(200, 60, 1+round) {
				if x.kind == "Drain" {
					continue
				}
				keep(there, x, do(a, x))
			}
			sameThings(t, name, slices.Collect(a.Drain()), there)
		}
	}
}

// keep keeps what is there, by its number, as a deed's answer tells it.
func keep(there map[int]thing, d deed, got told) {
	switch {
	case d.kind == "Push":
		there[got.id] = d.x
	case d.kind == "Pop" && got.ok:
		delete(there, got.id)
	case d.kind == "Set" && got.e == 0:
		there[d.id] = d.x
	case d.kind == "Drop" && got.e == 0:
		delete(there, d.id)
	}
}

// sameThings holds what was told against what was there, in whatever order.
func sameThings(t testing.TB, name string, told []thing, there map[int]thing) {
	t.Helper()
	count := map[thing]int{}
	for _, x := range there {
		count[x]++
	}
	for _, x := range told {
		count[x]--
	}
	for x, n := range count {
		if n != 0 {
			t.Fatalf("%s: %v is told %d times too seldom; %s", name, x, n, fmt.Sprint(len(told), " of ", len(there)))
		}
	}
}
