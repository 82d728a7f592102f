package channel_test

import (
	"slices"
	"testing"

	"rampart/api"
	"rampart/queue"
)

// asQueue is what a plain queue tells where a channel tells that error.
func asQueue(e api.Errno) api.Errno {
	switch e {
	case 81:
		return 101
	case 82:
		return 102
	case 83:
		return 103
	case 84:
		return 104
	case 142:
		return 105
	}
	return e
}

// pair is a channel and a plain queue with the same credits and ways, and what was taken and not retired.
type pair struct {
	t     testing.TB
	w     *world
	q     api.Queue
	tick  int
	taken []api.PlainMsg
}

// newPair is a pair of channel 2 of mixed settings, in which a tenant's lane is at its place.
func newPair(t testing.TB, ways []bool, credits []int) *pair {
	q, e := queue.New(credits, ways)
	must(t, e, api.OK, "queue.New")
	return &pair{t: t, w: newWorld(t, "beside a queue", ways, credits, quotas(mixed(ways, credits)), 2), q: q}
}

// ticketOf is a plain claim's.
func ticketOf(c api.Claim) api.Ticket { return api.Ticket{Seq: uint64(c.N), Epoch: uint64(c.Epoch)} }

// same holds an error of the channel's against one of the queue's, and keeps the queue if there is none.
func (p *pair) same(what string, got api.Errno, q api.Queue, want api.Errno) bool {
	p.t.Helper()
	if asQueue(got) != want {
		p.t.Fatalf("%s: %d, the queue tells %d", what, got, want)
	}
	if want == api.OK {
		p.q = q
	}
	return want == api.OK
}

// claim claims in both.
func (p *pair) claim(lane int) {
	p.t.Helper()
	place, k, e := p.w.made[0].Claim(lane)
	q, c, qe := queue.Claim(p.q, lane)
	if p.same("Claim", e, q, qe) && (place != c.Lane || k != ticketOf(c)) {
		p.t.Fatalf("Claim(%d) = %d, %v, the queue's is %v", lane, place, k, c)
	}
}

// publish writes and publishes in both, behind all stamps that were ahead.
func (p *pair) publish(c api.Claim, payload uint64) {
	p.t.Helper()
	p.tick++
	x, k := p.w.made[0], ticketOf(c)
	e := x.Write(c.Lane, k, payload)
	if ready := queue.Ready(p.q, c); x.Ready(c.Lane, k) != ready {
		p.t.Fatalf("Ready(%v) = %v", c, !ready)
	}
	if e == api.OK {
		e = x.Publish(c.Lane, k, api.Stamp{Tick: p.tick / 3, Step: p.tick % 3})
	}
	q, qe := queue.Publish(p.q, c, payload)
	p.same("Publish", e, q, qe)
}

// take takes in both.
func (p *pair) take() bool {
	p.t.Helper()
	place, k, payload, e := p.w.made[0].Take(len(p.q.Lanes))
	q, m, qe := queue.Take(p.q)
	if !p.same("Take", e, q, qe) {
		return false
	}
	if place != m.Lane || k != (api.Ticket{Seq: uint64(m.N), Epoch: uint64(m.Epoch)}) || payload != m.Payload {
		p.t.Fatalf("Take() = %d, %v, %d, the queue's is %v", place, k, payload, m)
	}
	p.taken = append(p.taken, m)
	return true
}

// retire retires one that was taken in both.
func (p *pair) retire(n int) {
	p.t.Helper()
	m := p.taken[n]
	p.taken = slices.Delete(p.taken, n, n+1)
	e := p.w.made[0].Retire(m.Lane, api.Ticket{Seq: uint64(m.N), Epoch: uint64(m.Epoch)})
	q, qe := queue.Retire(p.q, m)
	p.same("Retire", e, q, qe)
}

// reset resets in both.
func (p *pair) reset(lane int) {
	p.t.Helper()
	e := p.w.made[0].Reset(lane)
	q, qe := queue.Reset(p.q, lane)
	p.same("Reset", e, q, qe)
}

// someClaim is one of the queue's open claims, most often that whose turn it is, or any.
func (p *pair) someClaim(d *dice) api.Claim {
	lane := d.to(len(p.q.Lanes))
	l := p.q.Lanes[lane]
	c := api.Claim{Lane: lane, N: d.to(l.Next + 2), Epoch: max(0, l.Epoch-d.to(8)/7)}
	if len(l.Claims) > 0 && d.to(6) > 0 {
		c.N = l.Claims[d.to(len(l.Claims))*d.to(2)]
	}
	return c
}

// step does the same to both.
func (p *pair) step(d *dice) {
	p.t.Helper()
	switch n := d.to(25); {
	case n == 24:
		p.reset(d.to(len(p.q.Lanes)))
	case n < 7:
		p.claim(d.to(len(p.q.Lanes)))
	case n < 15:
		p.publish(p.someClaim(d), uint64(d.to(1<<40)))
	case n < 20:
		p.take()
	case len(p.taken) > 0:
		p.retire(d.to(len(p.taken)))
	}
}

// P14.4: where each Publish has a stamp behind all ahead of it, a channel tells what a plain queue tells.
func TestPlainQueue(t *testing.T) {
	d := dice(144)
	for round := range 120 {
		var ways []bool
		var credits []int
		for range 1 + round%14 {
			ways, credits = append(ways, d.to(2) == 0), append(credits, 1+d.to(1+round%9))
		}
		p := newPair(t, ways, credits)
		for range 400 {
			p.step(&d)
		}
		for p.take() {
		}
		if len(p.q.Q) > 0 {
			t.Fatalf("%v are left", p.q.Q)
		}
	}
}

// messages is how many a state has.
func messages(s api.LaneState) int { return s.Claimed + s.Published + s.Taken + s.Held }

// P14.5: of each partition as many slots are held as all its tenant's lanes, of all channels, have messages.
func TestSlots(t *testing.T) {
	d := dice(145)
	for range 40 {
		for _, w := range d.worlds(t) {
			most := 0
			for range 250 {
				x := d.deed(w)
				w.do(x)
				w.plains[x.on].do(x)
				want := map[int]int{}
				for on, p := range w.plains {
					for place, l := range p.lanes {
						s, _ := w.made[on].State(place)
						want[l.tenant] += messages(s)
					}
				}
				for part := range w.plains[0].arena.free {
					counts(t, w.arena, part, want[part])
					most = max(most, want[part])
				}
			}
			if most == 0 && w.name != "none" {
				t.Errorf("%s: no slot was held", w.name)
			}
		}
	}
}

// P14.6: what Claim, Write, Ready, Publish and Reset tell to the sender of a one-way lane hangs on no Take and no Retire, and on no call of another sender: it is told the same where none of these is made.
func TestOneWay(t *testing.T) {
	ways, credits := []bool{true, false, false, true}, []int{2, 3, 1, 2}
	parts := quotas(mixed(ways, credits))
	d := dice(146)
	refused, moved := 0, 0
	for range 60 {
		with := newWorld(t, "with", ways, credits, parts, 1, 2)
		without := []*world{nil, newWorld(t, "1 alone", ways, credits, parts, 1, 2), newWorld(t, "2 alone", ways, credits, parts, 1, 2), nil}
		for range 400 {
			x := d.deed(with)
			tenant := x.tenant
			if x.kind != "Claim" && x.kind != "Reset" {
				x.place = max(0, min(x.place, 3))
				tenant = with.plains[x.on].lanes[x.place].tenant
			}
			got := with.do(x)
			with.plains[x.on].do(x)
			if x.kind == "Take" || x.kind == "Retire" {
				if got.e == api.OK {
					moved++
				}
				continue
			}
			if tenant != 1 && tenant != 2 {
				continue
			}
			if want := without[tenant].do(x); got != want {
				t.Fatalf("%+v: %+v, alone %+v", x, got, want)
			}
			if got.e != api.OK {
				refused++
			}
		}
	}
	if refused < 1000 || moved < 1000 {
		t.Errorf("%d were refused, %d taken or retired", refused, moved)
	}
}

// P14.6: a one-way sender's credit and slots do not come back, whatever is taken and retired, till it resets.
func TestOneWayFull(t *testing.T) {
	for _, credit := range []int{1, 2, 63, 64} {
		x, a := one(t, []bool{true, false}, 1, credit)
		for epoch := range uint64(3) {
			for i := range credit {
				place, k := sends(t, x, 1, uint64(i), i)
				takes(t, x, 3, place, k, uint64(i))
				must(t, x.Retire(place, k), api.OK, "Retire")
				counts(t, a, 1, i+1)
			}
			claimsNot(t, x, 1, 81)
			stands(t, x, 0, api.LaneState{Held: credit, Epoch: epoch})
			must(t, x.Reset(1), api.OK, "Reset")
			counts(t, a, 1, 0)
		}
	}
}
