package lane_test

import (
	"testing"

	"rampart/api"
)

// starts are numbers from which lanes begin: some wrap soon, some never.
var starts = []uint64{0, 1, full, full - 1, full - 5, full - 63, full - 64, full - 200, 1<<63 - 2, 1 << 63, 1<<32 - 1, 12345}

// P8.5: messages are taken in the order in which they were claimed, each once, each with the slot that was laid last.
func TestQueue(t *testing.T) {
	d := dice(85)
	for i, start := range starts {
		for _, twoway := range []bool{false, true} {
			credit := 1 + d.to(64)
			l := made(t, credit, twoway, start)
			var waiting []api.Ticket
			lay := map[api.Ticket]api.Slot{}
			count := 0
			for _, x := range d.deeds(1500, credit, twoway, start) {
				got := do(l, x)
				if got.e != api.OK {
					continue
				}
				switch x.kind {
				case "Claim":
					waiting = append(waiting, got.ticket)
				case "Lay":
					lay[x.ticket] = x.slot
				case "Reset":
					waiting = nil
				case "Take":
					if len(waiting) == 0 || got.ticket != waiting[0] || got.slot != lay[got.ticket] {
						t.Fatalf("%d: taken: %v with %v, want %v with %v", i, got.ticket, got.slot, waiting, lay[got.ticket])
					}
					waiting = waiting[1:]
					count++
				}
			}
			if count < 50 {
				t.Errorf("from %d on: no more than %d were taken", start, count)
			}
		}
	}
}

// P8.6: what is left, and all that are claimed, published, taken and held, are together the credit, none of them below 0.
func TestCredit(t *testing.T) {
	d := dice(86)
	for i, start := range starts {
		for _, twoway := range []bool{false, true} {
			credit := 1 + (i*i+d.to(3))%64
			l := made(t, credit, twoway, start)
			for _, x := range d.deeds(800, credit, twoway, start) {
				do(l, x)
				s := l.State()
				if s.Left+s.Claimed+s.Published+s.Taken+s.Held != credit || min(s.Left, s.Claimed, s.Published, s.Taken, s.Held) < 0 {
					t.Fatalf("credit %d: behind %v: %+v", credit, x, s)
				}
				if twoway && s.Held != 0 {
					t.Fatalf("a two-way lane holds: %+v", s)
				}
			}
		}
	}
}

// P8.7: if any message is claimed, and each claimed one has a slot, one is ready, and one alone; when it is published, the next one is.
func TestNeverStuck(t *testing.T) {
	d := dice(87)
	for round := range 200 {
		start, credit, twoway := starts[round%len(starts)], 1+d.to(20), d.to(2) == 0
		deeds := d.deeds(1+d.to(120), credit, twoway, start)
		l, p := made(t, credit, twoway, start), newPlain(credit, twoway, start)
		for _, x := range deeds {
			do(l, x)
			p.do(x)
		}
		var open []api.Ticket
		for _, m := range p.msgs {
			if m.state == "claimed" {
				open = append(open, m.ticket)
				must(t, l.Lay(m.ticket, slot(1)), api.OK, "Lay")
			}
		}
		for i := range open {
			for k, x := range open {
				if l.Ready(x) != (i == k) {
					t.Fatalf("%d of %v are published: Ready(%v) = %v", i, open, x, i != k)
				}
			}
			must(t, l.Publish(open[i], api.Stamp{}), api.OK, "Publish")
		}
		if _, e := l.Reset(); e != api.OK {
			t.Fatalf("Reset() = %d", e)
		}
	}
}

// P8.8: what Claim, Lay, Ready, Publish and Reset of a one-way lane tell, but the slots, hangs on no Take and no Retire.
func TestOneWay(t *testing.T) {
	d := dice(88)
	for round := range 150 {
		start, credit := starts[round%len(starts)], 1+d.to(12)
		with, without := made(t, credit, false, start), made(t, credit, false, start)
		takes := 0
		for _, x := range d.deeds(300, credit, false, start) {
			got := do(with, x)
			if x.kind == "Take" || x.kind == "Retire" {
				if got.e == api.OK {
					takes++
				}
				continue
			}
			if want := do(without, x); got != want {
				t.Fatalf("%v: %+v, without Takes %+v", x, got, want)
			}
			for seq := range uint64(20) {
				if k := (api.Ticket{Seq: x.ticket.Seq + seq - 10, Epoch: x.ticket.Epoch}); with.Ready(k) != without.Ready(k) {
					t.Fatalf("Ready(%v) = %v, without Takes %v", k, with.Ready(k), without.Ready(k))
				}
			}
			if a, b := with.State(), without.State(); a.Left != b.Left || a.Claimed != b.Claimed || a.Epoch != b.Epoch {
				t.Fatalf("%+v, without Takes %+v", a, b)
			}
		}
		if takes == 0 {
			t.Errorf("round %d: nothing is taken", round)
		}
	}
}

// P8.8: a one-way lane is full till its sender resets it, whatever is taken and retired.
func TestOneWayFull(t *testing.T) {
	for _, credit := range []int{1, 2, 63, 64} {
		l := made(t, credit, false, full-1)
		for epoch := range uint64(3) {
			for range credit {
				k := taken(t, l, 1)[0]
				retires(t, l, k, api.Slot{}, false, api.OK)
			}
			if k, e := l.Claim(); k != (api.Ticket{}) || e != 81 {
				t.Errorf("credit %d: Claim() = %v, %d", credit, k, e)
			}
			stands(t, l, api.LaneState{Held: credit, Epoch: epoch})
			if s, e := l.Reset(); len(s) != credit || e != api.OK {
				t.Errorf("credit %d: Reset() = %v, %d", credit, s, e)
			}
		}
	}
}

// P8.9, rule 7: lanes with the same doings but for their starts tell the same, but for the numbers of tickets, and these are as far from the start.
func TestWrapped(t *testing.T) {
	d := dice(89)
	for round := range 60 {
		credit, twoway := 1+d.to(64), round%2 == 0
		deeds := d.deeds(400, credit, twoway, 1000)
		for _, start := range starts {
			base, moved := made(t, credit, twoway, 1000), made(t, credit, twoway, start)
			for _, x := range deeds {
				want := do(base, x)
				y := x
				y.ticket.Seq += start - 1000
				got := do(moved, y)
				if got.e == api.OK && (x.kind == "Claim" || x.kind == "Take") {
					got.ticket.Seq -= start - 1000
				}
				if got != want {
					t.Fatalf("from %d on: %v: %+v, want %+v", start, y, got, want)
				}
				if moved.Ready(y.ticket) != base.Ready(x.ticket) || moved.State() != base.State() {
					t.Fatalf("from %d on: %v: %+v, want %+v", start, y, moved.State(), base.State())
				}
				at, k, ok := moved.First()
				if ok {
					k.Seq -= start - 1000
				}
				if at1, k1, ok1 := base.First(); at != at1 || k != k1 || ok != ok1 {
					t.Fatalf("from %d on: First() = %v, %v, %v, want %v, %v, %v", start, at, k, ok, at1, k1, ok1)
				}
			}
		}
	}
}
