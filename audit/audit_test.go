package audit_test

import (
	"math"
	"slices"
	"testing"

	"rampart/api"
	"rampart/audit"
)

// full are rooms, so many, each so great.
func full(count, room int) []int { return slices.Repeat([]int{room}, count) }

// rows fails where a row is not the one that is wanted.
func rows(t testing.TB, what string, got []api.Record, want ...api.Record) {
	t.Helper()
	if !slices.Equal(got, want) {
		t.Errorf("%s: %v, want %v", what, got, want)
	}
}

// leaves fails where Left is not the one that is wanted.
func leaves(t testing.TB, l *audit.Log, gate, want int, wrong api.Errno) {
	t.Helper()
	if n, e := l.Left(gate); n != want || e != wrong {
		t.Errorf("Left(%d) = %d, %d, want %d, %d", gate, n, e, want, wrong)
	}
}

// The chapter's example, and what else is told behind it.
func TestExample(t *testing.T) {
	w := newWorld(t, 1, 2)
	w.add(t, rec(3, 0, 0), 0)
	w.add(t, rec(4, 0, 1), 0)
	w.add(t, rec(5, 0, 0), 150)
	rows(t, "All", w.made.All(3), rec(3, 0, 0), rec(4, 0, 1))
	leaves(t, w.made, 0, 0, 0)
	leaves(t, w.made, 1, 1, 0)
	w.right(t)
	w.add(t, rec(5, 0, 1), 0) // what was refused is not the last one
	w.right(t)
}

// P15.1: New with all counts of rooms, rooms at all edges, and the first error that the promise names.
func TestNew(t *testing.T) {
	for count := range 20 {
		for _, room := range edges {
			for place := range max(1, count) {
				rooms := full(count, 3)
				if count > 0 {
					rooms[place] = room
				}
				want := api.OK
				if count > 16 {
					want = api.ErrMany
				} else if count > 0 && (room < 0 || room > 1024) {
					want = api.ErrArg
				}
				l, e := audit.New(rooms...)
				if e != want || (l != nil) != (e == api.OK) {
					t.Fatalf("New(%v) = %v, %d, want %d", rooms, l, e, want)
				}
				if e == api.OK {
					(&world{l, &plain{rooms: rooms}}).right(t)
				}
			}
		}
	}
	if l, e := audit.New(full(17, -1)...); l != nil || e != 3 {
		t.Errorf("New of 17 rooms of -1: %v, %d", l, e)
	}
	if l, e := audit.New(append(full(15, 0), 1025)...); l != nil || e != 1 {
		t.Errorf("New of 16 rooms, the last 1025: %v, %d", l, e)
	}
	if l, e := audit.New(full(1<<17, 5)...); l != nil || e != 3 {
		t.Errorf("New of very many rooms: %v, %d", l, e)
	}
}

// P15.1, P15.3: logs without a gate are made, and have no gate.
func TestNoGates(t *testing.T) {
	for _, rooms := range [][]int{nil, {}} {
		w := newWorld(t, rooms...)
		for _, gate := range edges {
			w.add(t, rec(1, 0, gate), 5)
			leaves(t, w.made, gate, 0, 5)
		}
		w.right(t)
	}
}

// P15.1: what is left goes down one by one, of that gate alone, at gates up to both edges and behind them.
func TestLeft(t *testing.T) {
	for _, room := range []int{0, 1, 2, 1024} {
		w := newWorld(t, room, 7, room)
		for turn, gate := range []int{0, 2} {
			for n := range room {
				leaves(t, w.made, gate, room-n, 0)
				w.add(t, rec(gate*2000+n, 0, gate), 0)
			}
			leaves(t, w.made, gate, 0, 0)
			w.add(t, rec(9000, 0, gate), 150)
			leaves(t, w.made, gate, 0, 0)
			leaves(t, w.made, 1, 7, 0)
			leaves(t, w.made, 2-gate, room*(1-turn), 0)
		}
		for _, gate := range edges {
			if gate < 0 || gate > 2 {
				leaves(t, w.made, gate, 0, 5)
			}
		}
	}
}

// P15.2: which error comes first, of those that apply.
func TestAddErrors(t *testing.T) {
	w := newWorld(t, 1, 2)
	w.add(t, rec(1, 0, 2), 5) // ahead of the first record too
	w.add(t, rec(7, 3, 0), 0)
	for _, gate := range []int{-1, 2, math.MinInt, math.MaxInt} {
		w.add(t, rec(1, 0, gate), 5) // too late besides
		w.add(t, rec(9, 0, gate), 5)
	}
	for _, s := range []api.Stamp{at(7, 3), at(7, 2), at(7, math.MinInt), at(6, 9), at(0, 0), at(-1, 0), at(math.MinInt, math.MaxInt)} {
		w.add(t, api.Record{Stamp: s, Gate: 0}, 151) // full besides
		w.add(t, api.Record{Stamp: s, Gate: 1}, 151)
	}
	w.add(t, rec(8, 0, 0), 150)
	w.right(t)
	w.add(t, rec(7, 4, 0), 150)
	w.add(t, rec(7, 4, 1), 0)
	w.right(t)

	none := newWorld(t, 0, 0)
	none.add(t, rec(1, 0, 0), 150) // nothing is logged: nothing is late
	none.add(t, rec(1, 0, 1), 150)
	none.add(t, rec(0, 0, 2), 5)
	none.right(t)
}

// P15.2: the first record may have any stamp, and the next one any behind it, with any payload.
func TestAnyStamps(t *testing.T) {
	for _, tick := range edges {
		for _, step := range edges {
			w := newWorld(t, 4, 2)
			w.add(t, api.Record{Stamp: at(tick, step), Gate: 1, Payload: math.MaxUint64}, 0)
			w.add(t, api.Record{Stamp: at(tick, step), Gate: 0}, 151)
			for _, more := range edges {
				for _, s := range []api.Stamp{at(tick, more), at(more, step), at(more, more)} {
					if w.add(t, api.Record{Stamp: s, Payload: 1}) == api.OK {
						w.add(t, api.Record{Stamp: s, Gate: 1}, 151)
					}
				}
			}
			w.right(t)
		}
	}
}

// P15.2: what is late is so by the record logged last, in whichever gate, not by the gate's own.
func TestLateAnywhere(t *testing.T) {
	for first := range 3 {
		for second := range 3 {
			w := newWorld(t, 5, 5, 5)
			w.add(t, rec(1, 1, second), 0)
			w.add(t, rec(5, 5, first), 0)
			for gate := range 3 {
				w.add(t, rec(5, 5, gate), 151)
				w.add(t, rec(5, 4, gate), 151)
				w.add(t, rec(4, 9, gate), 151)
			}
			w.right(t)
			w.add(t, rec(5, 6, second), 0)
			w.add(t, rec(6, 0, first), 0)
			w.right(t)
		}
	}
}

// mixed is logs of four gates: gate 2 has no room, gate 3 logged nothing.
func mixed(t testing.TB) *world {
	w := newWorld(t, 3, 4, 0, 5)
	for _, r := range []api.Record{rec(2, 0, 1), rec(2, 1, 0), rec(2, 3, 0), rec(4, 0, 1), rec(4, 1, 1), rec(9, 15, 0), rec(10, 0, 1)} {
		w.add(t, r, 0)
	}
	return w
}

// P15.3: Of at each gate, and at none.
func TestOf(t *testing.T) {
	l := mixed(t).made
	rows(t, "Of(0)", l.Of(0), rec(2, 1, 0), rec(2, 3, 0), rec(9, 15, 0))
	rows(t, "Of(1)", l.Of(1), rec(2, 0, 1), rec(4, 0, 1), rec(4, 1, 1), rec(10, 0, 1))
	for _, gate := range append([]int{2, 3, 4}, edges...) {
		if gate != 0 && gate != 1 {
			rows(t, "Of none", l.Of(gate))
		}
	}
}

// P15.3: All of no gates, of each set of them, of sets with numbers above the gates.
func TestAll(t *testing.T) {
	w := mixed(t)
	rows(t, "All(0)", w.made.All(0))
	rows(t, "All(1)", w.made.All(1), w.made.Of(0)...)
	rows(t, "All(2)", w.made.All(2), w.made.Of(1)...)
	rows(t, "All(3)", w.made.All(3), rec(2, 0, 1), rec(2, 1, 0), rec(2, 3, 0), rec(4, 0, 1), rec(4, 1, 1), rec(9, 15, 0), rec(10, 0, 1))
	rows(t, "All above", w.made.All(every&^15))
	for s := range uint64(16) {
		for _, above := range []uint64{0, 1 << 4, 1 << 16, 1 << 63, every &^ 15} {
			w.tells(t, ask{kind: "All", set: s | above})
		}
	}
	many := newWorld(t, full(16, 2)...)
	for n := range 32 {
		many.add(t, rec(n, 0, n*7%16), 0)
	}
	for gate := range 64 {
		many.tells(t, ask{kind: "All", set: 1 << gate})
		many.tells(t, ask{kind: "All", set: every &^ (1 << gate)})
	}
}

// P15.3: Upto ahead of the first stamp, at one that was logged, between two, behind the last one.
func TestUpto(t *testing.T) {
	w := mixed(t)
	all := w.made.All(every)
	for _, want := range []struct {
		s api.Stamp
		n int
	}{
		{at(math.MinInt, 0), 0}, {at(0, 0), 0}, {at(1, 99), 0}, {at(2, -1), 0}, {at(2, 0), 1}, {at(2, 1), 2}, {at(2, 2), 2},
		{at(2, 3), 3}, {at(2, 4), 3}, {at(3, 0), 3}, {at(4, 0), 4}, {at(4, 1), 5}, {at(4, 9), 5}, {at(9, 14), 5}, {at(9, 15), 6},
		{at(9, 16), 6}, {at(10, -1), 6}, {at(10, 0), 7}, {at(10, 1), 7}, {at(11, -5), 7}, {at(math.MaxInt, math.MinInt), 7},
	} {
		rows(t, "Upto", w.made.Upto(want.s), all[:want.n]...)
	}
	rows(t, "Upto with nothing logged", made(t, 3).Upto(at(math.MaxInt, math.MaxInt)))
}

// P15.3: Last with nothing logged, behind each record, and behind what was refused.
func TestLast(t *testing.T) {
	w := newWorld(t, 2, 2, 2)
	if r, ok := w.made.Last(); r != (api.Record{}) || ok {
		t.Errorf("Last = %v, %t", r, ok)
	}
	w.add(t, rec(0, 0, 3), 5)
	w.tells(t, ask{kind: "Last"})
	for n, gate := range []int{2, 0, 0, 1, 2} {
		r := rec(n, -n, gate)
		w.add(t, r, 0)
		w.add(t, rec(n, -n, 1), 151)
		w.add(t, rec(n+1, 0, -1), 5)
		if n >= 2 {
			w.add(t, rec(n+1, 0, 0), 150)
		}
		if last, ok := w.made.Last(); last != r || !ok {
			t.Errorf("Last = %v, %t, want %v", last, ok, r)
		}
	}
}

// P15.3: a record of zeros is one all the same.
func TestZeroRecord(t *testing.T) {
	w := newWorld(t, 1)
	w.add(t, api.Record{}, 0)
	if r, ok := w.made.Last(); r != (api.Record{}) || !ok {
		t.Errorf("Last = %v, %t", r, ok)
	}
	rows(t, "Upto", w.made.Upto(at(0, 0)), api.Record{})
	w.right(t)
}

// P15.3: Same of rows that differ in one part of one record, of nil and empty rows, and of rows of unlike lengths.
func TestSame(t *testing.T) {
	l := []api.Record{rec(1, 2, 3), rec(4, 5, 6), rec(7, 8, 9), rec(7, 8, 9)}
	changes := []func(r *api.Record){
		func(r *api.Record) { r.Stamp.Tick++ },
		func(r *api.Record) { r.Stamp.Step-- },
		func(r *api.Record) { r.Gate = 1 },
		func(r *api.Record) { r.Payload ^= 1 << 63 },
		func(r *api.Record) { *r = api.Record{} },
	}
	same := func(a, b []api.Record, want bool) {
		t.Helper()
		if audit.Same(a, b) != want || audit.Same(b, a) != want {
			t.Errorf("Same of %v and %v is not %t", a, b, want)
		}
	}
	same(l, slices.Clone(l), true)
	for n := range l {
		for k := range len(l) + 1 {
			same(l[:n], l[:k], n == k)
		}
		for _, change := range changes {
			other := slices.Clone(l)
			change(&other[n])
			same(l, other, false)
			same(l[:n], other[:n], true)
			same(l[n+1:], other[n+1:], true)
		}
	}
	same([]api.Record{l[0], l[1]}, []api.Record{l[1], l[0]}, false)
	for _, none := range [][]api.Record{nil, {}, l[:0]} {
		for _, other := range [][]api.Record{nil, {}, l[4:]} {
			same(none, other, true)
		}
		same(none, l[:1], false)
		same(none, make([]api.Record, 1), false)
	}
}
