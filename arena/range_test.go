package arena_test

import (
	"slices"
	"testing"

	"rampart/api"
)

// P6.3: the names of held slots, by their numbers, whatever order they were given in.
func TestHeld(t *testing.T) {
	a := made(t, 1, 5)
	for range 5 {
		given(t, a, 1)
	}
	for _, n := range []int{4, 2, 1, 3} {
		a.Free(api.Slot{N: n})
	}
	for i, want := range [][]api.Slot{
		{{N: 5}},
		{{N: 4, Gen: 1}, {N: 5}},
		{{N: 2, Gen: 1}, {N: 4, Gen: 1}, {N: 5}},
		{{N: 1, Gen: 1}, {N: 2, Gen: 1}, {N: 4, Gen: 1}, {N: 5}},
		{{N: 1, Gen: 1}, {N: 2, Gen: 1}, {N: 3, Gen: 1}, {N: 4, Gen: 1}, {N: 5}},
	} {
		if got := all(a, 1); !slices.Equal(got, want) {
			t.Errorf("%d: Held(1) = %v, want %v", i, got, want)
		}
		if got := all(a, 0); got != nil {
			t.Errorf("%d: Held(0) = %v", i, got)
		}
		a.Alloc(1)
	}
}

// P6.3: as far as it is ranged over; nothing is told behind a break, and each ranging is from the first one on.
func TestHeldInPart(t *testing.T) {
	a := made(t, 2, 4)
	for range 4 {
		given(t, a, 1)
	}
	a.Free(api.Slot{N: 3})
	want := []api.Slot{{N: 2}, {N: 4}, {N: 5}}
	held := a.Held(1)
	for upto := range 5 {
		var got []api.Slot
		held(func(s api.Slot) bool {
			got = append(got, s)
			return len(got) <= upto
		})
		if want := want[:min(upto+1, 3)]; !slices.Equal(got, want) {
			t.Errorf("up to %d: %v, want %v", upto, got, want)
		}
	}
	for range 2 {
		if got := slices.Collect(held); !slices.Equal(got, want) {
			t.Errorf("to the end: %v, want %v", got, want)
		}
	}
	var got []int
	for s := range held {
		for u := range held {
			got = append(got, s.N, u.N)
			if s == u {
				break
			}
		}
	}
	if want := []int{2, 2, 4, 2, 4, 4, 5, 2, 5, 4, 5, 5}; !slices.Equal(got, want) {
		t.Errorf("in itself: %v, want %v", got, want)
	}
}

// P6.3: what is told hangs on how the slots stood when the ranging began, whatever is given and freed in the loop, and wherever there.
func TestHeldChanged(t *testing.T) {
	rows := [][]deed{
		{{kind: "Alloc"}},
		{{kind: "Alloc"}, {kind: "Alloc"}},
		{{kind: "Alloc", part: 1}, {kind: "Free", slot: api.Slot{N: 5}}},
	}
	for n := range 3 {
		free := deed{kind: "Free", slot: api.Slot{N: n}}
		rows = append(rows, []deed{free}, []deed{free, {kind: "Alloc"}, {kind: "Alloc"}, {kind: "Alloc"}})
	}
	for i, row := range rows {
		for at := range 3 {
			a, p := made(t, 5, 2), newPlain(5, 2)
			for _, d := range []deed{{kind: "Alloc"}, {kind: "Alloc"}, {kind: "Alloc"}, {kind: "Alloc", part: 1}} {
				do(a, d)
				p.do(d)
			}
			var got []api.Slot
			for s := range a.Held(0) {
				if len(got) == at {
					for _, d := range row {
						do(a, d)
						p.do(d)
					}
				}
				got = append(got, s)
			}
			if want := []api.Slot{{N: 0}, {N: 1}, {N: 2}}; !slices.Equal(got, want) {
				t.Errorf("row %d at %d: told %v, want %v", i, at, got, want)
			}
			if s := wrong(a, p); s != "" {
				t.Errorf("row %d at %d: %s", i, at, s)
			}
		}
	}
}

// P6.3: all that is told may be freed as it is told.
func TestHeldEmptied(t *testing.T) {
	a := made(t, 6)
	for range 6 {
		given(t, a, 0)
	}
	n := 0
	for s := range a.Held(0) {
		if e := a.Free(s); e != api.OK || s.N != n {
			t.Errorf("%d: Free(%v) = %d", n, s, e)
		}
		n++
	}
	if got := all(a, 0); n != 6 || got != nil {
		t.Errorf("%d were told, %v are left", n, got)
	}
}

// P6.3: an iterator tells how the slots stand when it is ranged over, not when Held was called.
func TestHeldLater(t *testing.T) {
	a := made(t, 4)
	held := a.Held(0)
	given(t, a, 0)
	given(t, a, 0)
	if got := slices.Collect(held); !slices.Equal(got, []api.Slot{{N: 0}, {N: 1}}) {
		t.Errorf("given: %v", got)
	}
	a.Free(api.Slot{N: 0})
	if got := slices.Collect(held); !slices.Equal(got, []api.Slot{{N: 1}}) {
		t.Errorf("freed: %v", got)
	}
}

// P6.3: of a partition that there is not nothing is told; there is an iterator nonetheless, and it may be called with nothing to tell to.
func TestHeldOfNone(t *testing.T) {
	a := made(t, 1, 1)
	given(t, a, 0)
	given(t, a, 1)
	for _, k := range beyond(2) {
		held := a.Held(k)
		if held == nil {
			t.Fatalf("Held(%d) = nil", k)
		}
		for s := range held {
			t.Errorf("Held(%d) tells %v", k, s)
		}
	}
	a.Held(0)(nil)
	a.Held(9)(nil)
	if got := all(a, 0); !slices.Equal(got, []api.Slot{{N: 0}}) {
		t.Errorf("called with nil: %v", got)
	}
}
