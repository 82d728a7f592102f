package lane_test

import (
	"math"
	"slices"
	"sync"
	"testing"

	"rampart/api"
	"rampart/lane"
)

// Rules 1 and 3: a lane that is nil, or that New did not make, whatever it is asked.
func TestNotMade(t *testing.T) {
	for name, l := range map[string]*lane.Lane{"nil": nil, "hand-made": {}, "new": new(lane.Lane)} {
		for _, k := range someTickets() {
			for _, kind := range kinds {
				d := deed{kind: kind, ticket: k, slot: slot(1), at: api.Stamp{Tick: 1}}
				if got := do(l, d); got != (told{e: 4}) {
					t.Errorf("%s: %v: %+v", name, d, got)
				}
			}
			if l.Ready(k) {
				t.Errorf("%s: Ready(%v) = true", name, k)
			}
			if at, first, ok := l.First(); at != (api.Stamp{}) || first != (api.Ticket{}) || ok {
				t.Errorf("%s: First() = %v, %v, %v", name, at, first, ok)
			}
			if s := l.State(); s != (api.LaneState{}) {
				t.Errorf("%s: State() = %+v", name, s)
			}
		}
	}
}

// someTickets are hand-made ones, of any numbers.
func someTickets() []api.Ticket {
	var l []api.Ticket
	for _, seq := range []uint64{0, 1, 63, 64, 65, 1 << 32, 1<<63 - 1, 1 << 63, full - 64, full - 1, full} {
		for _, epoch := range []uint64{0, 1, 2, 1 << 63, full} {
			l = append(l, api.Ticket{Seq: seq, Epoch: epoch})
		}
	}
	return l
}

// P8.1 to P8.4, rules 1 and 2: all rows of ten deeds that change a lane of credit 1 or 2, over the wrap; ahead of each of them, all that are refused: they tell their errors, and change nothing.
func TestAllShortRows(t *testing.T) {
	for _, twoway := range []bool{false, true} {
		for credit := 1; credit <= 2; credit++ {
			walk(t, credit, twoway, nil, 10)
		}
	}
}

// first is the start of the lanes in the short rows.
const first = full - 1

// choices are the deeds of which short rows are made, at a depth: each lays a slot, and has a stamp, of its own.
func choices(depth int) []deed {
	out := []deed{{kind: "Claim"}, {kind: "Take"}, {kind: "Reset"}}
	for i := range uint64(4) {
		for epoch := range uint64(2) {
			k := api.Ticket{Seq: first + i, Epoch: epoch}
			out = append(out, deed{kind: "Lay", ticket: k, slot: slot(depth)}, deed{kind: "Publish", ticket: k, at: api.Stamp{Tick: depth}}, deed{kind: "Retire", ticket: k})
		}
	}
	return out
}

// changes tells whether a deed would change a plain lane.
func (p *plain) changes(d deed) bool {
	switch d.kind {
	case "Claim":
		return p.left > 0
	case "Take":
		return p.first() != nil
	case "Reset":
		return p.count("claimed") == 0
	case "Lay":
		return p.in(d.ticket, "claimed") != nil
	case "Publish":
		return p.ready(d.ticket)
	}
	return p.in(d.ticket, "taken") != nil
}

// walk follows a row, with all that is refused on its way, and goes on with each deed that changes something.
func walk(t *testing.T, credit int, twoway bool, row []deed, depth int) {
	l, p := made(t, credit, twoway, first), newPlain(credit, twoway, first)
	for at := range len(row) + 1 {
		for _, d := range choices(at) {
			if p.changes(d) {
				continue
			}
			if got, want := do(l, d), p.do(d); got != want {
				t.Fatalf("credit %d, %v: %v, then %v: %+v, want %+v", credit, twoway, row[:at], d, got, want)
			}
		}
		if at < len(row) {
			if got, want := do(l, row[at]), p.do(row[at]); got != want {
				t.Fatalf("credit %d, %v: %v: %+v, want %+v", credit, twoway, row[:at+1], got, want)
			}
		}
	}
	if s := wrong(l, p); s != "" {
		t.Fatalf("credit %d, %v: %v: %s", credit, twoway, row, s)
	}
	if depth == 0 {
		return
	}
	for _, d := range choices(len(row)) {
		if p.changes(d) {
			walk(t, credit, twoway, append(slices.Clip(row), d), depth-1)
		}
	}
}

// P8.1 to P8.4, rules 1 and 2: long rows of deeds, wrong ones among them, with small credits, great ones, and the greatest.
func TestLongRows(t *testing.T) {
	d := dice(8)
	for round := range 240 {
		credit, twoway, start := 1+d.to(6), round%2 == 0, starts[round%len(starts)]
		if round%8 == 0 {
			credit = 1 + d.to(64)
		}
		follow(t, credit, twoway, start, d.deeds(200, credit, twoway, start))
	}
	for _, twoway := range []bool{false, true} {
		follow(t, 64, twoway, full-300, d.deeds(3000, 64, twoway, full-300))
		follow(t, 1, twoway, full-20, d.deeds(1000, 1, twoway, full-20))
	}
}

// Rules 1 and 2: hand-made tickets, of any numbers, have the plain lane's answers.
func TestAnyTickets(t *testing.T) {
	for _, start := range starts {
		for _, twoway := range []bool{false, true} {
			var deeds []deed
			for range 3 {
				deeds = append(deeds, deed{kind: "Claim"})
				for _, k := range someTickets() {
					for _, kind := range []string{"Publish", "Lay", "Publish", "Retire", "Lay", "Retire"} {
						deeds = append(deeds, deed{kind: kind, ticket: k, slot: api.Slot{N: math.MinInt, Gen: full}, at: api.Stamp{Tick: math.MinInt, Step: math.MaxInt}})
					}
				}
				deeds = append(deeds, deed{kind: "Take"})
			}
			follow(t, 2, twoway, start, deeds)
		}
	}
}

// Rule 4: what Reset answers is new memory: it may be written and added to, and neither the lane nor another answer changes.
func TestNewMemory(t *testing.T) {
	for _, twoway := range []bool{false, true} {
		l := made(t, 3, twoway, 0)
		taken(t, l, 2)
		published(t, l, 1)
		one, e := l.Reset()
		must(t, e, api.OK, "Reset")
		kept := slices.Clone(one)
		k := taken(t, l, 2)
		l.Retire(k[0])
		published(t, l, 1)
		for i := range one {
			one[i] = slot(77)
		}
		one = append(one, slot(78))
		two, e := l.Reset()
		must(t, e, api.OK, "Reset")
		want := []api.Slot{slot(4), slot(5)}
		if !twoway {
			want = []api.Slot{slot(3), slot(4), slot(5)}
		}
		if !slices.Equal(kept, []api.Slot{slot(0), slot(1), slot(2)}) || !slices.Equal(two, want) || one[0] != slot(77) {
			t.Errorf("two-way %v: %v, then %v", twoway, kept, two)
		}
	}
}

// Rule 5: what a Reset tells hangs on no order of maps: all 64 were taken.
func TestNoOrderOfMaps(t *testing.T) {
	for range 40 {
		l := made(t, 64, true, full-31)
		var want []api.Slot
		for _, k := range taken(t, l, 64) {
			want = append(want, slot(int(int32(k.Seq))))
		}
		resets(t, l, want...)
	}
}

// Rule 5: lanes that are given the same tell the same, whatever others are given meanwhile, or are asked; from several sides at once too.
func TestOthers(t *testing.T) {
	d := dice(5)
	deeds := d.deeds(600, 5, true, full-9)
	var want []told
	alone := made(t, 5, true, full-9)
	for _, x := range deeds {
		want = append(want, do(alone, x))
	}
	again := func() {
		l, other := made(t, 5, true, full-9), made(t, 7, false, full-9)
		for i, x := range deeds {
			other.Claim()
			do(other, x)
			l.State()
			l.First()
			l.Ready(x.ticket)
			if got := do(l, x); got != want[i] {
				t.Errorf("%v: %+v, alone %+v", x, got, want[i])
				return
			}
		}
	}
	again()
	var all sync.WaitGroup
	for range 8 {
		all.Go(again)
	}
	all.Wait()
}
