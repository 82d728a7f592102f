package audit_test

import (
	"fmt"
	"slices"
	"sync"
	"testing"

	"rampart/api"
	"rampart/audit"
)

// Rules 1 and 3: logs that are nil, or that New did not make, whatever they are asked.
func TestNotMade(t *testing.T) {
	for name, l := range map[string]*audit.Log{"nil": nil, "hand-made": {}, "new": new(audit.Log)} {
		for _, n := range edges {
			for _, m := range edges {
				if e := l.Add(rec(m, n, n)); e != 4 {
					t.Errorf("%s: Add: %d", name, e)
				}
				for _, q := range []ask{{kind: "Left", gate: n}, {kind: "Of", gate: n}, {kind: "All", set: uint64(n)}, {kind: "Upto", at: at(n, m)}, {kind: "Last"}} {
					want := told{}
					switch q.kind {
					case "Left":
						want.e = 4
					case "Of", "All", "Upto":
						want.rows = text(nil)
					}
					if got := answer(l, q); got != want {
						t.Errorf("%s: %+v: %+v", name, q, got)
					}
				}
			}
		}
		for _, s := range someSets {
			rows(t, name, l.All(s))
		}
	}
}

// Rule 3: what New refused was not made either.
func TestRefusedIsNotMade(t *testing.T) {
	l, _ := audit.New(1, -1)
	if e := l.Add(rec(1, 0, 0)); e != 4 {
		t.Errorf("Add: %d", e)
	}
	leaves(t, l, 0, 0, 4)
}

// again is new logs in which some records were logged.
func again(t testing.TB, rooms []int, l []api.Record) *world {
	t.Helper()
	w := newWorld(t, rooms...)
	for _, r := range l {
		w.add(t, r, 0)
	}
	return w
}

// P15.1 to P15.3, rules 1 and 2: each row of records that small logs can have, and each record behind it: those that are refused tell their errors, and change nothing.
func TestAllShortRows(t *testing.T) {
	for _, rooms := range [][]int{{}, {2}, {0, 1}, {1, 2}, {2, 1, 2}} {
		count := 0
		var from func(l []api.Record)
		from = func(l []api.Record) {
			count++
			w := again(t, rooms, l)
			w.right(t)
			for gate := -1; gate <= len(rooms); gate++ {
				for n := range 7 {
					r := rec(n/2, n%2, gate)
					if w.add(t, r) == api.OK {
						from(append(slices.Clone(l), r))
						w = again(t, rooms, l)
					} else {
						w.tells(t, ask{kind: "Last"})
						w.tells(t, ask{kind: "Left", gate: gate})
					}
				}
			}
			w.right(t)
		}
		from(nil)
		if len(rooms) == 3 && count < 500 {
			t.Errorf("%v: no more than %d rows", rooms, count)
		}
	}
}

// P15.1 to P15.3, rules 1 and 2: long rows of records, wrong ones among them, behind which all is told as the chapter's words say.
func TestLongRows(t *testing.T) {
	d := dice(15)
	answers := map[api.Errno]int{}
	for range 60 {
		w := newWorld(t, d.rooms()...)
		for n := range 200 {
			answers[w.add(t, d.record(w))]++
			if n == 100 {
				w.right(t)
			}
			for _, kind := range questions {
				q := ask{kind, d.to(18) - 1, uint64(d.to(1 << 20)), at(d.to(400), d.to(16))}
				w.tells(t, q)
			}
		}
		w.right(t)
	}
	for _, e := range []api.Errno{0, 5, 150, 151} {
		if answers[e] < 300 {
			t.Errorf("no more than %d are answered %d", answers[e], e)
		}
	}
}

// P15.1 to P15.4: as many logs as may be, each as great as may be.
func TestGreatest(t *testing.T) {
	w := &world{made(t, full(16, 1024)...), &plain{rooms: full(16, 1024)}}
	var all []api.Record
	for n := range 16 * 1024 {
		r := rec(n/16, n%16, n*5%16)
		if e := w.made.Add(r); e != 0 {
			t.Fatalf("Add(%v): %d", r, e)
		}
		all = append(all, r)
	}
	w.plain.all = all
	for gate := range 16 {
		w.add(t, rec(2000, 0, gate), 150)
		w.tells(t, ask{kind: "Left", gate: gate})
		w.tells(t, ask{kind: "Of", gate: gate})
	}
	if got := w.made.All(every); !audit.Same(got, all) {
		t.Errorf("All tells %d records", len(got))
	}
	for _, s := range []api.Stamp{at(-1, 0), at(0, 0), at(511, 15), at(512, 8), at(1023, 14), at(1023, 15), at(1024, 0)} {
		w.tells(t, ask{kind: "Upto", at: s})
	}
	w.tells(t, ask{kind: "Last"})
}

// P15.1 to P15.3, rule 1: any numbers, ahead of records and behind them.
func TestAnyNumbers(t *testing.T) {
	d := dice(1)
	for range 300 {
		w := newWorld(t, d.rooms()...)
		edge := func() int { return edges[d.to(len(edges))] }
		for range 20 {
			w.add(t, api.Record{Stamp: at(edge(), edge()), Gate: d.to(len(w.plain.rooms) + 1), Payload: uint64(edge())})
			w.add(t, api.Record{Stamp: at(edge(), edge()), Gate: edge(), Payload: uint64(edge())})
			for _, kind := range questions {
				w.tells(t, ask{kind, edge(), uint64(edge()), at(edge(), edge())})
			}
		}
		w.right(t)
	}
}

// Rule 2: New with an error makes nothing, and whatever is refused changes nothing, at each gate.
func TestRefusedChangesNothing(t *testing.T) {
	w := mixed(t)
	before := fmt.Sprint(everyRow(w))
	for range 3 {
		for _, r := range []api.Record{rec(11, 0, 2), rec(99, 0, 0), rec(99, 0, 4), rec(99, 0, -1), rec(10, 0, 3), rec(9, 0, 3), rec(1, 0, 9)} {
			if w.add(t, r) == api.OK {
				t.Errorf("Add(%v) is OK", r)
			}
			w.right(t)
		}
	}
	if after := fmt.Sprint(everyRow(w)); after != before {
		t.Errorf("told %s, then %s", before, after)
	}
	w.add(t, rec(10, 1, 3), 0)
	w.right(t)
}

// mark stands where nobody may write.
var mark = rec(-7, -7, -7)

// spoil writes marks all over a row, up to the end of its room and behind it.
func spoil(l []api.Record) {
	room := l[:cap(l)]
	for i := range room {
		room[i] = mark
	}
	_ = append(l, mark, mark)
}

// Rule 4: what is told may be changed, up to the ends of the rooms, without changing the logs, or another answer; nor does an answer change as more is logged.
func TestNewMemory(t *testing.T) {
	tells := []func(l *audit.Log) []api.Record{
		func(l *audit.Log) []api.Record { return l.Of(0) },
		func(l *audit.Log) []api.Record { return l.Of(1) },
		func(l *audit.Log) []api.Record { return l.All(every) },
		func(l *audit.Log) []api.Record { return l.All(1) },
		func(l *audit.Log) []api.Record { return l.All(2) },
		func(l *audit.Log) []api.Record { return l.Upto(at(4, 0)) },
		func(l *audit.Log) []api.Record { return l.Upto(at(2, 0)) },
		func(l *audit.Log) []api.Record { return l.Upto(at(99, 0)) },
	}
	for i, tell := range tells {
		w := mixed(t)
		one, two, want := tell(w.made), tell(w.made), tell(mixed(t).made)
		spoil(one)
		w.right(t)
		rows(t, fmt.Sprint("told twice ", i), two, want...)
		w.add(t, rec(11, 0, 3), 0)
		w.add(t, rec(12, 0, 3), 0)
		spoil(tell(w.made))
		w.right(t)
		rows(t, fmt.Sprint("told ahead ", i), two, want...)
	}
}

// Rule 4: New changes no rooms, reads none behind the row's end, and what is written into the row later changes no logs.
func TestRooms(t *testing.T) {
	row := append(full(3, 2), -5, 2000)
	rooms := row[:3]
	w := newWorld(t, rooms...)
	if want := []int{2, 2, 2, -5, 2000}; !slices.Equal(row, want) {
		t.Errorf("rooms are %v", row)
	}
	for i := range row {
		row[i] = 0
	}
	for n := range 6 {
		w.add(t, rec(n, 0, n%3), 0)
	}
	w.add(t, rec(9, 0, 0), 150)
	w.right(t)
}

// Rule 4: Same changes nothing, up to the ends of the rooms, nor does its answer hang on these.
func TestSameChangesNothing(t *testing.T) {
	row := []api.Record{rec(1, 0, 0), rec(2, 0, 0), mark, mark}
	other := []api.Record{rec(1, 0, 0), rec(2, 0, 0), rec(3, 0, 0)}
	kept, keptOther := slices.Clone(row), slices.Clone(other)
	for n := range 4 {
		for k := range 4 {
			if audit.Same(row[:n], other[:k]) != (n == k && n < 3) {
				t.Errorf("Same of %v and %v", row[:n], other[:k])
			}
		}
	}
	rows(t, "the first row", row, kept...)
	rows(t, "the other row", other, keptOther...)
}

// A copy of the struct is one with it: what is logged in either is told by both.
func TestCopied(t *testing.T) {
	w := newWorld(t, 2, 2)
	copied := *w.made
	w.add(t, rec(1, 0, 0), 0)
	if e := copied.Add(rec(1, 0, 1)); e != 151 {
		t.Errorf("Add: %d", e)
	}
	if e := copied.Add(rec(2, 0, 1)); e != 0 {
		t.Errorf("Add: %d", e)
	}
	w.plain.add(rec(2, 0, 1))
	w.right(t)
	w.add(t, rec(2, 0, 0), 151)
	w.made = &copied
	w.right(t)
}

// Rule 5: logs that are given the same tell the same, whatever others are given meanwhile; from several sides at once too.
func TestOthers(t *testing.T) {
	d := dice(5)
	rooms := []int{5, 0, 30, 100, 7}
	alone := newWorld(t, rooms...)
	var deeds []api.Record
	var want []api.Errno
	for range 300 {
		r := d.record(alone)
		deeds, want = append(deeds, r), append(want, alone.add(t, r))
	}
	once := func() {
		l, _ := audit.New(rooms...)
		other, _ := audit.New(100, 100, 1)
		for i, r := range deeds {
			other.Add(rec(i, 0, i%3))
			l.All(every)
			l.Upto(r.Stamp)
			if e := l.Add(r); e != want[i] {
				t.Errorf("Add(%v): %d, alone %d", r, e, want[i])
				return
			}
		}
		if got := l.All(every); !audit.Same(got, alone.plain.all) {
			t.Errorf("All: %v, alone %v", got, alone.plain.all)
		}
	}
	once()
	var all sync.WaitGroup
	for range 8 {
		all.Go(once)
	}
	all.Wait()
}

// Rule 5: who asks changes nothing: the same logs may be asked from several sides at once.
func TestAskedAtOnce(t *testing.T) {
	w := mixed(t)
	asked := w.asked()
	once := func() {
		for _, q := range asked {
			if got, want := answer(w.made, q), w.plain.answer(q); got != want {
				t.Errorf("%+v: %+v, want %+v", q, got, want)
			}
		}
	}
	var all sync.WaitGroup
	for range 8 {
		all.Go(once)
	}
	all.Wait()
}

// Any bytes, read as rooms and records.
func FuzzLog(f *testing.F) {
	f.Add([]byte{2, 1, 2, 3, 0, 4, 1, 5, 0})
	f.Add([]byte{})
	f.Fuzz(func(t *testing.T, b []byte) {
		if len(b) == 0 || len(b) > 500 || len(b) < 1+int(b[0]%17) {
			return
		}
		rooms := make([]int, b[0]%17)
		for i := range rooms {
			rooms[i] = int(b[1+i])
		}
		w := newWorld(t, rooms...)
		for x := range slices.Chunk(b[1+len(rooms):], 2) {
			if len(x) == 2 {
				w.add(t, rec(int(int8(x[0]))/4, int(x[0]%4), int(int8(x[1]))))
			}
		}
		w.right(t)
	})
}
