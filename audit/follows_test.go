package audit_test

import (
	"slices"
	"testing"

	"rampart/api"
)

// rises tells whether the stamps of a row rise.
func rises(l []api.Record) bool {
	for i := range l {
		if i > 0 && !stands(l[i-1].Stamp, l[i].Stamp) {
			return false
		}
	}
	return true
}

// begins tells whether a row begins with another one.
func begins(l, with []api.Record) bool {
	return len(l) >= len(with) && slices.Equal(l[:len(with)], with)
}

// everyRow is each row that logs tell: of each gate, of each set of them, up to each stamp that was logged or would be.
func everyRow(w *world) [][]api.Record {
	var out [][]api.Record
	for gate := range w.plain.rooms {
		out = append(out, w.made.Of(gate))
	}
	for _, s := range someSets {
		out = append(out, w.made.All(s))
	}
	for tick := -1; tick < 60; tick += 3 {
		out = append(out, w.made.Upto(at(tick, 8)))
	}
	return out
}

// P15.4: each row that is told rises by its stamps, and all that was logged and told OK is there, each once, and nothing else.
func TestInOrder(t *testing.T) {
	d := dice(154)
	logged := 0
	for range 150 {
		w := newWorld(t, d.rooms()...)
		var ok []api.Record
		for range 60 {
			r := d.record(w)
			if w.made.Add(r) == api.OK {
				ok = append(ok, r)
				w.plain.all = append(w.plain.all, r)
				logged++
			}
		}
		if !rises(ok) {
			t.Fatalf("rooms %v: logged %v", w.plain.rooms, ok)
		}
		for _, l := range everyRow(w) {
			if !rises(l) {
				t.Fatalf("rooms %v: logged %v, told %v", w.plain.rooms, ok, l)
			}
		}
		if all := w.made.All(every); !slices.Equal(all, ok) {
			t.Fatalf("rooms %v: logged %v, told %v", w.plain.rooms, ok, all)
		}
		var each []api.Record
		for gate := range w.plain.rooms {
			each = append(each, w.made.Of(gate)...)
		}
		slices.SortStableFunc(each, func(a, b api.Record) int {
			if stands(a.Stamp, b.Stamp) {
				return -1
			}
			return 1
		})
		if !slices.Equal(each, ok) {
			t.Fatalf("rooms %v: logged %v, told one by one %v", w.plain.rooms, ok, each)
		}
	}
	if logged < 2000 {
		t.Errorf("no more than %d records are logged", logged)
	}
}

// P15.5: each row that is told later begins with what was told ahead of it, whatever was logged or refused between.
func TestAppendOnly(t *testing.T) {
	d := dice(155)
	for range 60 {
		w := newWorld(t, d.rooms()...)
		ahead := everyRow(w)
		for range 80 {
			r := d.record(w)
			e := w.add(t, r)
			behind := everyRow(w)
			for i := range behind {
				if !begins(behind[i], ahead[i]) || e != api.OK && len(behind[i]) != len(ahead[i]) {
					t.Fatalf("rooms %v: Add(%v): %d; told %v, then %v", w.plain.rooms, r, e, ahead[i], behind[i])
				}
			}
			ahead = behind
		}
	}
}

// P15.5: what stands up to a stamp stays as it is for ever, once something stands behind it.
func TestUptoStays(t *testing.T) {
	d := dice(1550)
	w := newWorld(t, 200, 3, 100)
	old := map[api.Stamp][]api.Record{}
	for range 500 {
		r := d.record(w)
		if w.add(t, r) == api.OK {
			old[r.Stamp] = w.made.Upto(r.Stamp)
		}
	}
	for s, l := range old {
		rows(t, "Upto later", w.made.Upto(s), l...)
	}
	if len(old) < 100 {
		t.Errorf("no more than %d records are logged", len(old))
	}
}

// P15.6: of two logs, in which a gate logged the same, and the others all sorts of things, up to one stamp, both take the gate's next record, or neither does, with one error.
func TestAlone(t *testing.T) {
	d := dice(156)
	answers := map[api.Errno]int{}
	for range 400 {
		room, mine := d.to(6), d.to(4)
		one, two := d.rooms4(mine, room), d.rooms4(mine, room)
		a, b := newWorld(t, one...), newWorld(t, two...)
		for tick := range 12 {
			if d.to(2) == 0 {
				r := rec(tick, 5, mine)
				x, y := a.made.Add(r), b.made.Add(r)
				answers[x]++
				if x != y {
					t.Fatalf("rooms %v and %v: Add(%v): %d, and %d", one, two, r, x, y)
				}
			}
			d.others(a, tick, mine)
			d.others(b, tick, mine)
			// both have the same stamp last: gate 4 has room for it
			end := rec(tick, 9, 4)
			a.add(t, end)
			b.add(t, end)
			for _, r := range []api.Record{rec(tick, 8, mine), rec(tick, 9, mine)} {
				if x, y := a.made.Add(r), b.made.Add(r); x != 151 || y != 151 {
					t.Fatalf("rooms %v and %v: Add(%v): %d, and %d", one, two, r, x, y)
				}
			}
		}
		rows(t, "Of", a.made.Of(mine), b.made.Of(mine)...)
	}
	if answers[0] < 100 || answers[150] < 100 || len(answers) != 2 {
		t.Errorf("answers were %v", answers)
	}
}

// rooms4 are five: that of one gate is given, those of three others are small, that of gate 4 is great.
func (d *dice) rooms4(mine, room int) []int {
	l := []int{d.to(6), d.to(6), d.to(6), d.to(6), 1024}
	l[mine] = room
	return l
}

// others has gates but one log records in a tick, some or none.
func (d *dice) others(w *world, tick, mine int) {
	for step := 6; step < 9; step++ {
		if gate := d.to(4); gate != mine {
			w.made.Add(rec(tick, step, gate))
		}
	}
}

// P15.6: a gate takes just as many records as its room, however many the others log, or are refused, between.
func TestRoomIsOnesOwn(t *testing.T) {
	d := dice(1560)
	for range 200 {
		w := newWorld(t, d.to(5), d.to(5), d.to(5), d.to(5))
		took := make([]int, 4)
		for tick := range 60 {
			gate := d.to(4)
			want := api.OK
			if took[gate] == w.plain.rooms[gate] {
				want = api.ErrLogged
			}
			if w.add(t, rec(tick, d.to(16), gate), want) == api.OK {
				took[gate]++
			}
		}
		w.right(t)
	}
}
