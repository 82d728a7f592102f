package channel_test

import (
	"fmt"
	"math"
	"slices"
	"sync"
	"testing"

	"rampart/api"
	"rampart/arena"
	"rampart/channel"
	"rampart/conf"
)

// names are those of all calls.
var names = []string{"Claim", "Write", "Ready", "Publish", "Take", "Retire", "Reset"}

// someTickets are hand-made ones, of any numbers.
func someTickets() []api.Ticket {
	var l []api.Ticket
	for _, seq := range []uint64{0, 1, 2, 63, 64, 1 << 32, 1 << 63, math.MaxUint64 - 1, math.MaxUint64} {
		for _, epoch := range []uint64{0, 1, 2, 1 << 63, math.MaxUint64} {
			l = append(l, api.Ticket{Seq: seq, Epoch: epoch})
		}
	}
	return l
}

// Rules 1 and 3: a channel that is nil, or that New did not make, whatever it is asked.
func TestNotMade(t *testing.T) {
	for name, x := range map[string]*channel.Channel{"nil": nil, "hand-made": {}, "new": new(channel.Channel)} {
		w := &world{made: []*channel.Channel{x}}
		for _, n := range edges {
			for _, k := range someTickets() {
				for _, kind := range names {
					want := told{e: 4}
					if kind == "Ready" {
						want = told{}
					}
					d := deed{kind: kind, tenant: n, place: n, ticket: k, at: api.Stamp{Tick: 1}, payload: 7}
					if got := w.do(d); got != want {
						t.Errorf("%s: %+v: %+v", name, d, got)
					}
				}
			}
			if s, e := x.State(n); s != (api.LaneState{}) || e != 4 {
				t.Errorf("%s: State(%d) = %+v, %d", name, n, s, e)
			}
		}
	}
}

// choices are the deeds of which all short rows are made: of two lanes, of one that is none, with all tickets that come up; payloads are the row's length, stamps are two.
func choices(depth int) []deed {
	var out []deed
	for tenant := range 4 {
		out = append(out, deed{kind: "Claim", tenant: tenant}, deed{kind: "Reset", tenant: tenant})
	}
	for tenant := 1; tenant < 4; tenant++ {
		out = append(out, deed{kind: "Take", tenant: tenant})
	}
	for _, place := range []int{-1, 0, 1, 2} {
		for seq := range uint64(3) {
			for epoch := range uint64(2) {
				x := deed{place: place, ticket: api.Ticket{Seq: seq, Epoch: epoch}, payload: uint64(depth) + 1}
				for _, kind := range []string{"Write", "Ready", "Retire", "Publish"} {
					x.kind = kind
					out = append(out, x)
				}
				x.at.Step = 1
				out = append(out, x)
			}
		}
	}
	return out
}

// key is a text of all that stands in a plain world.
func (w *world) key() string {
	s := fmt.Sprint(w.plains[0].arena)
	for _, p := range w.plains {
		for _, l := range p.lanes {
			s += fmt.Sprint("\n", *l)
		}
	}
	return s
}

// again is a new small world to which the deeds of a row were done.
func again(t testing.TB, parts []int, r row) *world {
	t.Helper()
	w := newWorld(t, "short rows", both, []int{2, 1}, parts, 1)
	for _, d := range r {
		if got, want := w.do(d), w.plains[0].do(d); got != want {
			t.Fatalf("%+v: %+v, want %+v", r, got, want)
		}
	}
	return w
}

// P14.1 to P14.3, rules 1 and 2: each channel to which a short row of deeds leads, and each deed there: those that are refused tell their errors, and change nothing.
func TestAllShortRows(t *testing.T) {
	for _, parts := range [][]int{{2, 1, 0, 0}, {1, 1}} {
		seen := map[string]bool{}
		rows := []row{nil}
		for depth := range 7 {
			var next []row
			for _, r := range rows {
				w := again(t, parts, r)
				before := w.key()
				for _, d := range choices(depth) {
					_, s := w.step(d)
					if s != "" {
						t.Fatalf("%+v, then %+v: %s", r, d, s)
					}
					after := w.key()
					if after == before {
						continue
					}
					if !seen[after] {
						seen[after] = true
						next = append(next, append(slices.Clip(r), d))
					}
					w = again(t, parts, r)
				}
			}
			rows = next
		}
		if len(seen) < 500 {
			t.Errorf("%v: no more than %d channels", parts, len(seen))
		}
	}
}

// worlds are of some kinds: few lanes and many, one channel and several over one arena, arenas that are as great as they need be, and smaller ones.
func (d *dice) worlds(t testing.TB) []*world {
	three, cs := []bool{true, false, true}, []int{2, 3, 4}
	many, ones := make([]bool, 14), make([]int, 14)
	for i := range many {
		many[i], ones[i] = d.to(2) == 0, 1+d.to(4)
	}
	return []*world{
		newWorld(t, "two", both, []int{2, 2}, quotas(mixed(both, []int{2, 2})), 1),
		newWorld(t, "three", three, cs, quotas(mixed(three, cs)), 1, 2),
		newWorld(t, "few slots", three, cs, []int{1, 2, 5, 0}, 1, 2),
		newWorld(t, "few partitions", three, cs, []int{3, 3}, 2, 1),
		newWorld(t, "none", nil, nil, []int{3}, 0, 1),
		newWorld(t, "many", many, ones, quotas(mixed(many, ones)), 2, 1, 0),
		newWorld(t, "one way", []bool{false}, []int{64}, []int{128, 0, 0}, 1),
		newWorld(t, "two-way", []bool{true}, []int{64}, []int{128, 0, 0}, 1),
		newWorld(t, "twice", both, []int{2, 2}, []int{6, 6, 0, 0}, 1, 1, 2),
	}
}

// P14.1 to P14.3, rules 1 and 2: long rows of deeds, wrong ones among them.
func TestLongRows(t *testing.T) {
	d := dice(14)
	for range 30 {
		for _, w := range d.worlds(t) {
			var r row
			for range 300 {
				w.follow(t, &r, d.deed(w))
			}
		}
	}
}

// P14.2, P14.3, rules 1 and 2: long rows, while somebody else takes slots and frees any, those of messages too.
func TestOthersSlots(t *testing.T) {
	d := dice(15)
	dead := 0
	for range 30 {
		for _, w := range d.worlds(t) {
			var r row
			for range 300 {
				x := d.deed(w)
				if n := d.to(12); n == 0 {
					x = deed{kind: "Alloc", tenant: d.to(4)}
				} else if n == 1 {
					x = deed{kind: "Free", slot: d.slot(w)}
				}
				if got := w.follow(t, &r, x); got.e == 62 && x.kind != "Free" {
					dead++
				}
			}
		}
	}
	if dead < 100 {
		t.Errorf("no more than %d slots were dead", dead)
	}
}

// slot is the name of any slot, as it stands.
func (d *dice) slot(w *world) api.Slot {
	a := w.plains[0].arena
	n := d.to(len(a.slots))
	return api.Slot{N: n, Gen: a.slots[n].gen}
}

// Rules 1 and 2: any numbers have the plain channel's answers, ahead of messages and behind them.
func TestAnyNumbers(t *testing.T) {
	d := dice(16)
	for _, count := range []int{0, 5, 40} {
		for _, w := range d.worlds(t) {
			var r row
			for range count {
				w.follow(t, &r, d.deed(w))
			}
			for _, n := range edges {
				for _, k := range someTickets() {
					x := deed{kind: "Ready", tenant: n, place: n, ticket: k, at: api.Stamp{Tick: n, Step: n}, payload: uint64(n)}
					for _, kind := range names {
						x.kind = kind
						if got, want := w.do(x), w.plains[0].do(x); got != want {
							t.Fatalf("%s: %+v: %+v, want %+v", w.name, x, got, want)
						}
					}
				}
				if s := w.wrong(); s != "" {
					t.Fatalf("%s: behind %d: %s", w.name, n, s)
				}
			}
		}
	}
}

// Rule 1: an arena that somebody overwrote answers for itself; what needs none of it goes on.
func TestArenaGone(t *testing.T) {
	x, a := one(t, both, 2, 2)
	place, k := sends(t, x, 0, 10, 1)
	takes(t, x, 2, place, k, 10)
	_, k2 := sends(t, x, 0, 11, 2)
	p1, k1 := claims(t, x, 1)
	*a = arena.Arena{}
	claimsNot(t, x, 1, 4)
	must(t, x.Write(p1, k1, 1), 4, "Write")
	takesNot(t, x, 2, 4)
	stands(t, x, place, api.LaneState{Published: 1, Taken: 1})
	must(t, x.Retire(place, k), api.OK, "Retire")
	must(t, x.Reset(0), api.OK, "Reset")
	stands(t, x, place, api.LaneState{Left: 2, Epoch: 1})
	must(t, x.Retire(place, k2), api.OK, "Retire")
	claimsNot(t, x, 0, 4)
	stands(t, x, p1, api.LaneState{Left: 1, Claimed: 1})

	one, _ := arena.New(1)
	*a = *one
	claimsNot(t, x, 1, 5)
	must(t, x.Write(p1, k1, 1), 62, "Write")
	claims(t, x, 0)
}

// copied are settings in memory of their own.
func copied(c api.Conf) api.Conf {
	c.Flows, c.Tenants, c.Gates, c.Frame = slices.Clone(c.Flows), slices.Clone(c.Tenants), slices.Clone(c.Gates), slices.Clone(c.Frame)
	c.Channels = slices.Clone(c.Channels)
	for i := range c.Channels {
		c.Channels[i].Lanes = slices.Clone(c.Channels[i].Lanes)
		c.Channels[i].Receivers = slices.Clone(c.Channels[i].Receivers)
	}
	return c
}

// Rule 4: New changes no settings, and what is written into them later changes no channel.
func TestSettings(t *testing.T) {
	c := mixed(both, []int{2, 3})
	kept := copied(c)
	a, _ := arena.New(quotas(c)...)
	x := made(t, c, 1, a)
	if !conf.Same(c, kept) {
		t.Errorf("New changed its settings: %+v", c)
	}
	w := &world{name: "settings", arena: a, made: []*channel.Channel{x}, plains: []*plain{newPlain(kept.Channels[1], both, newPlainArena(quotas(kept)))}}
	for i := range c.Channels[1].Lanes {
		c.Channels[1].Lanes[i] = api.Lane{Tenant: 2, Credit: 64, Opens: true}
	}
	for i := range c.Channels[1].Receivers {
		c.Channels[1].Receivers[i].Tenant = 1
	}
	for i := range c.Tenants {
		c.Tenants[i].Label = 1 - c.Tenants[i].Label
	}
	c.Flows[0], c.Flows[1] = 0, 0
	c.Channels[1] = api.Channel{}
	if s := w.wrong(); s != "" {
		t.Fatal(s)
	}
	d := dice(4)
	var r row
	for range 400 {
		w.follow(t, &r, d.deed(w))
	}
}

// Rule 4: lists of no things, nil or empty, are the same.
func TestNilAndEmpty(t *testing.T) {
	c := api.Conf{Flows: []uint64{1}, Tenants: []api.Tenant{{Quota: 1}}, Channels: []api.Channel{{}, {Lanes: []api.Lane{}, Receivers: []api.Receiver{}}}, Gates: []api.Gate{}, Frame: []int{0}, Budget: 1, Requests: 1, Pending: 1}
	a, _ := arena.New(1)
	for n := range 2 {
		x := made(t, c, n, a)
		claimsNot(t, x, 0, 140)
		takesNot(t, x, 0, 141)
		must(t, x.Reset(0), 140, "Reset")
		must(t, x.Write(0, api.Ticket{}, 1), 5, "Write")
	}
}

// Rule 5: channels that are given the same tell the same, whatever others are given meanwhile; from several sides at once too, each over an arena of its own.
func TestOthers(t *testing.T) {
	ways, cs := []bool{true, false, true, true}, []int{2, 3, 1, 4}
	parts := quotas(mixed(ways, cs))
	d := dice(5)
	var deeds row
	var want []told
	alone := newWorld(t, "alone", ways, cs, parts, 1)
	for range 600 {
		x := d.deed(alone)
		want = append(want, alone.follow(t, &deeds, x))
	}
	once := func() {
		w, other := newWorld(t, "again", ways, cs, parts, 1), newWorld(t, "other", ways, cs, parts, 2)
		for i, x := range deeds {
			other.do(x)
			w.made[0].State(x.place)
			w.made[0].Ready(x.place, x.ticket)
			if got := w.do(x); got != want[i] {
				t.Errorf("%+v: %+v, alone %+v", x, got, want[i])
				return
			}
		}
	}
	once()
	var all sync.WaitGroup
	for range 8 {
		all.Go(once)
	}
	all.Wait()
}
