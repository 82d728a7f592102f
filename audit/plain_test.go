package audit_test

import (
	"fmt"
	"math"
	"slices"
	"testing"

	"rampart/api"
	"rampart/audit"
)

// every is the set of all numbers.
const every uint64 = math.MaxUint64

// edges are numbers at which something ends, and some that are far from all of them.
var edges = []int{
	math.MinInt, math.MinInt + 1, -1 << 32, -1025, -17, -2, -1, 0, 1, 2, 3, 15, 16, 17, 63, 64, 65, 1023, 1024, 1025,
	1 << 20, 1<<20 + 1, 1 << 32, math.MaxInt - 1, math.MaxInt,
}

// someSets are sets of gates: none, single ones at the edges, all, and mixed ones.
var someSets = []uint64{0, 1, 2, 3, 5, 6, 1 << 15, 1<<16 - 1, 1 << 16, 1 << 63, every &^ 7, every &^ 2, 0xaaaaaaaaaaaaaaaa, every}

// at is a stamp.
func at(tick, step int) api.Stamp { return api.Stamp{Tick: tick, Step: step} }

// rec is a gate's record, whose payload tells it from others.
func rec(tick, step, gate int) api.Record {
	return api.Record{Stamp: at(tick, step), Gate: gate, Payload: uint64(tick)<<20 ^ uint64(step)<<8 ^ uint64(gate)}
}

// stands tells whether the first stamp stands ahead of the second one.
func stands(a, b api.Stamp) bool {
	if a.Tick != b.Tick {
		return a.Tick < b.Tick
	}
	return a.Step < b.Step
}

// plain is logs as the chapter's words have them: rooms, and one row of all that was logged.
type plain struct {
	rooms []int
	all   []api.Record
}

// is tells whether there is a gate.
func (p *plain) is(gate int) bool { return gate >= 0 && gate < len(p.rooms) }

// some are the records that a question holds of.
func (p *plain) some(holds func(api.Record) bool) []api.Record {
	var l []api.Record
	for _, r := range p.all {
		if holds(r) {
			l = append(l, r)
		}
	}
	return l
}

// of are a gate's records.
func (p *plain) of(gate int) []api.Record {
	return p.some(func(r api.Record) bool { return r.Gate == gate })
}

// refuses is the error with which a record is not logged.
func (p *plain) refuses(r api.Record) api.Errno {
	if !p.is(r.Gate) {
		return 5
	}
	if n := len(p.all); n > 0 && !stands(p.all[n-1].Stamp, r.Stamp) {
		return 151
	}
	if len(p.of(r.Gate)) == p.rooms[r.Gate] {
		return 150
	}
	return 0
}

// add logs a record.
func (p *plain) add(r api.Record) api.Errno {
	e := p.refuses(r)
	if e == 0 {
		p.all = append(p.all, r)
	}
	return e
}

// ask is a question: of which kind, and what it is asked with.
type ask struct {
	kind string
	gate int
	set  uint64
	at   api.Stamp
}

// told is what a question is answered, rows as texts.
type told struct {
	rows string
	n    int
	r    api.Record
	ok   bool
	e    api.Errno
}

// questions are the kinds of all questions.
var questions = []string{"Left", "Of", "All", "Upto", "Last"}

// text is a row as a text, the same one for nil and for empty ones.
func text(l []api.Record) string { return fmt.Sprintf("%d: %v", len(l), l) }

// answer is what logs answer to a question.
func answer(l *audit.Log, q ask) (got told) {
	switch q.kind {
	case "Left":
		got.n, got.e = l.Left(q.gate)
	case "Of":
		got.rows = text(l.Of(q.gate))
	case "All":
		got.rows = text(l.All(q.set))
	case "Upto":
		got.rows = text(l.Upto(q.at))
	case "Last":
		got.r, got.ok = l.Last()
	default:
		panic(q.kind)
	}
	return got
}

// answer is what the chapter's words say.
func (p *plain) answer(q ask) (want told) {
	switch q.kind {
	case "Left":
		if !p.is(q.gate) {
			return told{e: 5}
		}
		want.n = p.rooms[q.gate] - len(p.of(q.gate))
	case "Of":
		want.rows = text(p.of(q.gate))
	case "All":
		want.rows = text(p.some(func(r api.Record) bool { return q.set/(1<<r.Gate)%2 == 1 }))
	case "Upto":
		want.rows = text(p.some(func(r api.Record) bool { return !stands(q.at, r.Stamp) }))
	case "Last":
		if n := len(p.all); n > 0 {
			want.r, want.ok = p.all[n-1], true
		}
	}
	return want
}

// made are logs that New must make.
func made(t testing.TB, rooms ...int) *audit.Log {
	t.Helper()
	l, e := audit.New(rooms...)
	if l == nil || e != api.OK {
		t.Fatalf("New(%v) = %v, %d", rooms, l, e)
	}
	return l
}

// world is logs, and the plain ones beside them.
type world struct {
	made  *audit.Log
	plain *plain
}

// newWorld is empty logs with rooms.
func newWorld(t testing.TB, rooms ...int) *world {
	t.Helper()
	return &world{made(t, rooms...), &plain{rooms: slices.Clone(rooms)}}
}

// add logs a record in both, and fails where they tell unlike things, or where the error is not the one that is wanted.
func (w *world) add(t testing.TB, r api.Record, want ...api.Errno) api.Errno {
	t.Helper()
	got, plain := w.made.Add(r), w.plain.add(r)
	if got != plain || len(want) > 0 && got != want[0] {
		t.Fatalf("rooms %v, behind %v: Add(%v): %d, want %d %v", w.plain.rooms, w.plain.all, r, got, plain, want)
	}
	return got
}

// tells asks both, and fails where they tell unlike things.
func (w *world) tells(t testing.TB, q ask) told {
	t.Helper()
	got := answer(w.made, q)
	if want := w.plain.answer(q); got != want {
		t.Fatalf("rooms %v, behind %v: %+v: %+v, want %+v", w.plain.rooms, w.plain.all, q, got, want)
	}
	return got
}

// asked are questions at all edges, and at all stamps that were logged, a step ahead of them and behind them.
func (w *world) asked() []ask {
	l := []ask{{kind: "Last"}}
	for gate := -1; gate <= len(w.plain.rooms)+1; gate++ {
		l = append(l, ask{kind: "Left", gate: gate}, ask{kind: "Of", gate: gate})
	}
	for _, s := range someSets {
		l = append(l, ask{kind: "All", set: s})
	}
	l = append(l, ask{kind: "Upto", at: at(math.MinInt, math.MinInt)}, ask{kind: "Upto", at: at(math.MaxInt, math.MaxInt)})
	for _, r := range w.plain.all {
		for _, s := range []api.Stamp{r.Stamp, at(r.Stamp.Tick, r.Stamp.Step-1), at(r.Stamp.Tick, r.Stamp.Step+1), at(r.Stamp.Tick-1, r.Stamp.Step), at(r.Stamp.Tick+1, r.Stamp.Step)} {
			l = append(l, ask{kind: "Upto", at: s})
		}
	}
	return l
}

// right fails where an answer is not the plain logs'.
func (w *world) right(t testing.TB) {
	t.Helper()
	for _, q := range w.asked() {
		w.tells(t, q)
	}
}

// dice is a row of numbers that looks like chance, the same one each time.
type dice uint64

// to is a number from 0 to n-1.
func (d *dice) to(n int) int {
	*d += 0x9e3779b97f4a7c15
	z := uint64(*d)
	z = (z ^ z>>30) * 0xbf58476d1ce4e5b9
	z = (z ^ z>>27) * 0x94d049bb133111eb
	return int((z ^ z>>31) % uint64(n))
}

// rooms are some, small ones and great ones, none at times.
func (d *dice) rooms() []int {
	l := make([]int, d.to(17))
	for i := range l {
		l[i] = d.to(8)
		if d.to(8) == 0 {
			l[i] = d.to(1025)
		}
	}
	return l
}

// record is one that comes next in logs, or too late, at a gate that is one, or none.
func (d *dice) record(w *world) api.Record {
	r := api.Record{Gate: d.to(len(w.plain.rooms)+2) - 1, Payload: uint64(d.to(math.MaxInt))}
	if d.to(10) > 0 && len(w.plain.rooms) > 0 {
		r.Gate = d.to(len(w.plain.rooms))
	}
	if n := len(w.plain.all); n > 0 {
		r.Stamp = w.plain.all[n-1].Stamp
	}
	switch d.to(6) {
	case 0: // alike
	case 1:
		r.Stamp.Step -= d.to(3)
	case 2:
		r.Stamp.Tick, r.Stamp.Step = r.Stamp.Tick-d.to(2), d.to(16)
	case 3:
		r.Stamp.Step++
	default:
		r.Stamp.Tick, r.Stamp.Step = r.Stamp.Tick+1+d.to(3), d.to(16)
	}
	return r
}
