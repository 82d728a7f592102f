package channel_test

import (
	"math"
	"slices"
	"testing"

	"rampart/api"
	"rampart/arena"
	"rampart/channel"
)

// both are a two-way sender, tenant 0, and a one-way one, tenant 1; in channel 1 their lanes are at the places 1 and 0, and the tenants 2, 3 and 0 receive.
var both = []bool{true, false}

// edges are numbers of any kind.
var edges = []int{math.MinInt, math.MinInt32, -2, -1, 0, 1, 2, 3, 4, 15, 16, 64, 256, 1 << 32, math.MaxInt}

// at is a stamp of a tick.
func at(tick int) api.Stamp { return api.Stamp{Tick: tick} }

// The chapter's example: b is published first, and taken first.
func TestExample(t *testing.T) {
	x, _ := one(t, []bool{true, true}, 1, 1)
	pa, ka := claims(t, x, 0)
	pb, kb := claims(t, x, 1)
	must(t, x.Write(pa, ka, 10), api.OK, "Write")
	must(t, x.Write(pb, kb, 11), api.OK, "Write")
	must(t, x.Publish(pb, kb, at(1)), api.OK, "Publish")
	must(t, x.Publish(pa, ka, at(2)), api.OK, "Publish")
	takes(t, x, 2, pb, kb, 11)
	takes(t, x, 2, pa, ka, 10)
	takesNot(t, x, 2, 142)
}

// spoiled are settings that may not be, by the error that is theirs.
func spoiled() map[api.Errno]api.Conf {
	base := func(change func(c *api.Conf)) api.Conf {
		c := mixed(both, []int{2, 3})
		change(&c)
		return c
	}
	return map[api.Errno]api.Conf{
		1:  {},
		3:  base(func(c *api.Conf) { c.Flows = make([]uint64, 17) }),
		10: base(func(c *api.Conf) { c.Flows[0] = 7 }),
		20: base(func(c *api.Conf) { c.Flows[0] = 2 }),
		40: base(func(c *api.Conf) { c.Tenants[1].Quota = 257 }),
		41: base(func(c *api.Conf) { c.Channels[1].Label = 2 }),
		42: base(func(c *api.Conf) { c.Channels[1].Lanes[0].Credit = 0 }),
		43: base(func(c *api.Conf) { c.Channels[2].Receivers[0].Tenant = 4 }),
		44: base(func(c *api.Conf) { c.Channels[1].Label = 0 }),
		45: base(func(c *api.Conf) { c.Tenants[1].Quota = 5 }),
		46: base(func(c *api.Conf) { c.Gates = []api.Gate{{}} }),
		47: base(func(c *api.Conf) { c.Frame = nil }),
		48: base(func(c *api.Conf) { c.Budget = 17 }),
	}
}

// P14.1, rule 2: New tells what is wrong with the settings first, then the channel's number, then the arena.
func TestNewErrors(t *testing.T) {
	good, e := arena.New(1)
	must(t, e, api.OK, "arena.New")
	for _, a := range []*arena.Arena{nil, {}, new(arena.Arena), good} {
		for _, n := range edges {
			for want, c := range spoiled() {
				if x, e := channel.New(c, n, a); x != nil || e != want {
					t.Errorf("channel %d: %v, %d, want %d", n, x, e, want)
				}
			}
			want := api.Errno(5)
			if n >= 0 && n < 3 {
				want = 4
			}
			if a == good && want == 4 {
				continue
			}
			if x, e := channel.New(mixed(both, []int{2, 3}), n, a); x != nil || e != want {
				t.Errorf("channel %d, arena %v: %v, %d, want %d", n, a, x, e, want)
			}
		}
	}
	c := mixed(both, []int{2, 3})
	c.Channels = nil
	if x, e := channel.New(c, 0, good); x != nil || e != 5 {
		t.Errorf("no channels: %v, %d", x, e)
	}
}

// P14.1: each channel of settings, the last one too, has the lanes that are its own, with their credits, and no other.
func TestNew(t *testing.T) {
	c := mixed([]bool{true, false, true}, []int{1, 2, 64})
	a, _ := arena.New(quotas(c)...)
	for n, want := range [][]int{{}, {64, 2, 1}, {1, 2, 64}} {
		x := made(t, c, n, a)
		for place, credit := range want {
			stands(t, x, place, api.LaneState{Left: credit})
		}
		for _, place := range append(slices.Clone(edges), len(want)) {
			if place >= 0 && place < len(want) {
				continue
			}
			if s, e := x.State(place); s != (api.LaneState{}) || e != 5 {
				t.Errorf("channel %d: State(%d) = %+v, %d", n, place, s, e)
			}
		}
	}
	x := made(t, c, 0, a)
	for tenant := range 5 {
		claimsNot(t, x, tenant, 140)
		must(t, x.Reset(tenant), 140, "Reset")
		takesNot(t, x, tenant, 141)
	}
}

// P14.1: an arena of one partition without slots is one, too.
func TestNewSmallArena(t *testing.T) {
	a, e := arena.New(0)
	must(t, e, api.OK, "arena.New")
	x := made(t, mixed(both, []int{1, 1}), 1, a)
	claimsNot(t, x, 0, 61)
	claimsNot(t, x, 1, 5)
	stands(t, x, 0, api.LaneState{Left: 1})
	stands(t, x, 1, api.LaneState{Left: 1})
}

// P14.2: claims are of the tenant's own lane, numbered from 0 on, each with a slot of its partition.
func TestClaim(t *testing.T) {
	x, a := one(t, both, 2, 3)
	for seq := range uint64(2) {
		if place, k := claims(t, x, 0); place != 1 || k != (api.Ticket{Seq: seq}) {
			t.Errorf("claim %d: %d, %v", seq, place, k)
		}
		if place, k := claims(t, x, 1); place != 0 || k != (api.Ticket{Seq: seq}) {
			t.Errorf("claim %d: %d, %v", seq, place, k)
		}
	}
	counts(t, a, 0, 2)
	counts(t, a, 1, 2)
	claimsNot(t, x, 0, 81)
	if place, k := claims(t, x, 1); place != 0 || k != (api.Ticket{Seq: 2}) {
		t.Errorf("%d, %v", place, k)
	}
	claimsNot(t, x, 1, 81)
	for _, tenant := range edges {
		if tenant != 0 && tenant != 1 {
			claimsNot(t, x, tenant, 140)
		}
	}
	counts(t, a, 0, 2)
	counts(t, a, 1, 3)
	stands(t, x, 0, api.LaneState{Claimed: 3})
	stands(t, x, 1, api.LaneState{Claimed: 2})
}

// P14.2: without a free slot nothing is claimed; where there is no credit either, that is told first, and where the tenant has no lane, that.
func TestClaimNoSlot(t *testing.T) {
	a, _ := arena.New(1, 0, 0)
	x := made(t, mixed(both, []int{2, 1}), 1, a)
	claimsNot(t, x, 1, 61)
	claimsNot(t, x, 2, 140)
	place, k := claims(t, x, 0)
	claimsNot(t, x, 0, 61)
	stands(t, x, 1, api.LaneState{Left: 1, Claimed: 1})
	must(t, x.Write(place, k, 5), api.OK, "Write")
	must(t, x.Publish(place, k, at(0)), api.OK, "Publish")
	takes(t, x, 2, place, k, 5)
	claimsNot(t, x, 0, 61)
	must(t, x.Retire(place, k), api.OK, "Retire")
	if _, k := claims(t, x, 0); k != (api.Ticket{Seq: 1}) {
		t.Errorf("the next one: %v", k)
	}

	b, _ := arena.New(1, 1)
	y := made(t, mixed(both, []int{1, 1}), 1, b)
	claims(t, y, 0)
	claimsNot(t, y, 0, 81)
}

// P14.2: Write lays the payload in the message's own slot, in the place of an elder one, till it is published.
func TestWrite(t *testing.T) {
	x, a := one(t, both, 2, 2)
	place, k := claims(t, x, 0)
	_, k2 := claims(t, x, 0)
	other, k3 := claims(t, x, 1)
	must(t, x.Write(place, k2, math.MaxUint64), api.OK, "Write")
	must(t, x.Write(place, k, 7), api.OK, "Write")
	must(t, x.Write(place, k, 8), api.OK, "Write")
	must(t, x.Write(other, k3, 9), api.OK, "Write")
	for n, want := range map[int]uint64{0: 8, 1: math.MaxUint64, 4: 9} {
		if payload, _, held := a.Look(n); payload != want || !held {
			t.Errorf("slot %d: %d, %v", n, payload, held)
		}
	}
	for _, p := range []int{math.MinInt, -1, 2, 3, math.MaxInt} {
		must(t, x.Write(p, k, 1), 5, "Write")
	}
	for _, none := range []api.Ticket{{Seq: 2}, {Seq: math.MaxUint64}, {Epoch: 1}, {Epoch: math.MaxUint64}, {Seq: 1, Epoch: 1}} {
		must(t, x.Write(place, none, 1), 82, "Write")
	}
	must(t, x.Write(other, k2, 1), 82, "Write of another lane's")
	must(t, x.Publish(place, k, at(1)), api.OK, "Publish")
	must(t, x.Write(place, k, 1), 82, "Write of what is published")
	takes(t, x, 2, place, k, 8)
	must(t, x.Write(place, k, 1), 82, "Write of what is taken")
	must(t, x.Retire(place, k), api.OK, "Retire")
	must(t, x.Write(place, k, 1), 82, "Write of what is gone")
}

// P14.2: a slot that somebody else freed: what is not laid cannot be, and what is laid stays so.
func TestWriteDead(t *testing.T) {
	x, a := one(t, both, 2, 2)
	place, k := claims(t, x, 0)
	_, k2 := claims(t, x, 0)
	must(t, x.Write(place, k2, 2), api.OK, "Write")
	must(t, a.Free(api.Slot{N: 0}), api.OK, "Free")
	must(t, a.Free(api.Slot{N: 1}), api.OK, "Free")
	must(t, x.Write(place, k, 1), 62, "Write")
	must(t, x.Write(place, k2, 1), 62, "Write")
	if x.Ready(place, k) || x.Publish(place, k, at(0)) != 82 {
		t.Error("what is not laid is ready")
	}
	stands(t, x, place, api.LaneState{Claimed: 2})
	must(t, x.Publish(place, k2, at(0)), 83, "Publish of what is laid")
}

// P14.2: ready is what is laid, and has none claimed ahead of it; ahead of Write nothing is.
func TestReady(t *testing.T) {
	x, _ := one(t, both, 3, 2)
	place, k := claims(t, x, 0)
	_, k2 := claims(t, x, 0)
	ready := func(p int, k api.Ticket, want bool) {
		t.Helper()
		if x.Ready(p, k) != want {
			t.Errorf("Ready(%d, %v) = %v", p, k, !want)
		}
	}
	ready(place, k, false)
	must(t, x.Write(place, k2, 2), api.OK, "Write")
	ready(place, k2, false)
	ready(place, k, false)
	must(t, x.Write(place, k, 1), api.OK, "Write")
	ready(place, k, true)
	ready(place, k2, false)
	for _, p := range edges {
		if p != place {
			ready(p, k, false)
		}
	}
	ready(place, api.Ticket{Epoch: 1}, false)
	must(t, x.Publish(place, k, at(0)), api.OK, "Publish")
	ready(place, k, false)
	ready(place, k2, true)
}

// P14.2: Publish of what is not laid, not claimed, not the first one, of lanes that are none, twice.
func TestPublish(t *testing.T) {
	x, _ := one(t, both, 3, 2)
	place, k := claims(t, x, 0)
	_, k2 := claims(t, x, 0)
	must(t, x.Publish(place, k, at(1)), 82, "Publish of what is not laid")
	must(t, x.Write(place, k2, 2), api.OK, "Write")
	must(t, x.Publish(place, k2, at(1)), 83, "Publish ahead of an elder one")
	must(t, x.Write(place, k, 1), api.OK, "Write")
	must(t, x.Publish(place, k2, at(1)), 83, "Publish ahead of an elder one")
	for _, p := range []int{math.MinInt, -1, 2, math.MaxInt} {
		must(t, x.Publish(p, k, at(1)), 5, "Publish")
	}
	must(t, x.Publish(0, k, at(1)), 82, "Publish in another lane")
	must(t, x.Publish(place, api.Ticket{Seq: 2}, at(1)), 82, "Publish of none")
	must(t, x.Publish(place, api.Ticket{Epoch: 1}, at(1)), 82, "Publish of another epoch")
	takesNot(t, x, 2, 142)
	stands(t, x, place, api.LaneState{Left: 1, Claimed: 2})
	must(t, x.Publish(place, k, at(1)), api.OK, "Publish")
	must(t, x.Publish(place, k, at(1)), 82, "Publish twice")
	must(t, x.Publish(place, k2, at(1)), api.OK, "Publish")
	stands(t, x, place, api.LaneState{Left: 1, Published: 2})
}

// P14.2, P14.3: stamps are any numbers, those that chapter 7 has none for too: they are compared as they stand.
func TestAnyStamps(t *testing.T) {
	stamps := []api.Stamp{
		{Tick: math.MaxInt, Step: math.MaxInt}, {Tick: -1, Step: 99}, {Tick: math.MinInt, Step: math.MaxInt}, {Tick: 5, Step: -1},
		{Tick: math.MinInt, Step: math.MinInt}, {Tick: 5, Step: math.MinInt}, {Tick: 1 << 40}, {},
	}
	ways, credits := slices.Repeat([]bool{true}, len(stamps)), slices.Repeat([]int{1}, len(stamps))
	x, _ := one(t, ways, credits...)
	for tenant, s := range stamps {
		place, k := claims(t, x, tenant)
		must(t, x.Write(place, k, uint64(tenant)), api.OK, "Write")
		must(t, x.Publish(place, k, s), api.OK, "Publish")
	}
	for _, tenant := range []int{4, 2, 1, 7, 5, 3, 6, 0} {
		takes(t, x, len(stamps), len(stamps)-1-tenant, api.Ticket{}, uint64(tenant))
	}
}

// P14.3: Take is for receivers, that are told so ahead of whether there is a message.
func TestTake(t *testing.T) {
	x, a := one(t, both, 2, 2)
	for _, tenant := range edges {
		want := api.Errno(141)
		if tenant == 0 || tenant == 2 || tenant == 3 {
			want = 142
		}
		takesNot(t, x, tenant, want)
	}
	p0, k0 := sends(t, x, 0, 10, 5)
	p1, k1 := sends(t, x, 1, 11, 3)
	_, k2 := sends(t, x, 1, 12, 6)
	takesNot(t, x, 1, 141)
	takes(t, x, 3, p1, k1, 11)
	takes(t, x, 0, p0, k0, 10)
	stands(t, x, p1, api.LaneState{Published: 1, Taken: 1})
	takes(t, x, 2, p1, k2, 12)
	takesNot(t, x, 3, 142)
	counts(t, a, 0, 1)
	counts(t, a, 1, 2)
}

// P14.3: of alike stamps the first lane's comes first, whichever was published first.
func TestTakeAlike(t *testing.T) {
	for _, order := range [][]int{{0, 1, 2}, {2, 1, 0}, {1, 2, 0}, {1, 0, 2}} {
		x, _ := one(t, []bool{true, true, false}, 2, 2, 2)
		for range 2 {
			for _, tenant := range order {
				sends(t, x, tenant, uint64(tenant), 4)
			}
		}
		for _, place := range []int{0, 1, 2} {
			for seq := range uint64(2) {
				takes(t, x, 4, place, api.Ticket{Seq: seq}, uint64(2-place))
			}
		}
	}
}

// P14.3: a lane's message waits for those ahead of it in its lane, though its stamp be less: what counts is the lane's first one.
func TestTakeFirstOfLane(t *testing.T) {
	x, _ := one(t, both, 3, 2)
	p0, k0 := sends(t, x, 0, 10, 9)
	_, k1 := sends(t, x, 0, 11, 1)
	p1, k2 := sends(t, x, 1, 12, 5)
	takes(t, x, 2, p1, k2, 12)
	takes(t, x, 2, p0, k0, 10)
	_, k3 := sends(t, x, 1, 13, 0)
	takes(t, x, 2, p1, k3, 13)
	takes(t, x, 2, p0, k1, 11)
}

// P14.3: the first message's slot is dead: Take tells so, and takes nothing, till its sender resets.
func TestTakeDead(t *testing.T) {
	x, a := one(t, both, 2, 2)
	place, _ := sends(t, x, 0, 10, 1)
	p1, k1 := sends(t, x, 1, 11, 2)
	must(t, a.Free(api.Slot{N: 0}), api.OK, "Free")
	for range 2 {
		takesNot(t, x, 2, 62)
		stands(t, x, place, api.LaneState{Left: 1, Published: 1})
	}
	must(t, x.Reset(0), api.OK, "Reset")
	takes(t, x, 2, p1, k1, 11)
	stands(t, x, place, api.LaneState{Left: 2, Epoch: 1})
}

// P14.3: Retire of a two-way lane's message gives its credit and its slot back; a one-way lane's stays, held, till a Reset.
func TestRetire(t *testing.T) {
	x, a := one(t, both, 2, 2)
	p0, k0 := claims(t, x, 0)
	must(t, x.Retire(p0, k0), 82, "Retire of what is claimed")
	must(t, x.Write(p0, k0, 5), api.OK, "Write")
	must(t, x.Publish(p0, k0, at(1)), api.OK, "Publish")
	must(t, x.Retire(p0, k0), 82, "Retire of what is published")
	p1, k1 := sends(t, x, 1, 6, 2)
	for _, p := range []int{math.MinInt, -1, 2, math.MaxInt} {
		must(t, x.Retire(p, k0), 5, "Retire")
		must(t, x.Retire(p, api.Ticket{Epoch: 9}), 5, "Retire")
	}
	takes(t, x, 2, p0, k0, 5)
	takes(t, x, 2, p1, k1, 6)
	must(t, x.Retire(p0, api.Ticket{Seq: 1}), 82, "Retire of none")
	must(t, x.Retire(p0, api.Ticket{Epoch: 1}), api.OK, "Retire of another epoch")
	stands(t, x, p0, api.LaneState{Left: 1, Taken: 1})
	counts(t, a, 0, 1)
	must(t, x.Retire(p0, k0), api.OK, "Retire")
	stands(t, x, p0, api.LaneState{Left: 2})
	counts(t, a, 0, 0)
	if payload, gen, held := a.Look(0); payload != 0 || gen != 1 || held {
		t.Errorf("slot 0: %d, %d, %v", payload, gen, held)
	}
	must(t, x.Retire(p0, k0), 82, "Retire twice")
	must(t, x.Retire(p1, k1), api.OK, "Retire")
	stands(t, x, p1, api.LaneState{Left: 1, Held: 1})
	counts(t, a, 1, 1)
	must(t, x.Retire(p1, k1), 82, "Retire twice")
	must(t, x.Reset(1), api.OK, "Reset")
	counts(t, a, 1, 0)
}

// P14.3: several receivers, that retire in another order than they took.
func TestRetireOrder(t *testing.T) {
	x, a := one(t, both, 3, 1)
	var ks []api.Ticket
	for i := range 3 {
		_, k := sends(t, x, 0, uint64(i), i)
		ks = append(ks, k)
		takes(t, x, []int{2, 0, 3}[i], 1, k, uint64(i))
	}
	for i, n := range []int{1, 2, 0} {
		must(t, x.Retire(1, ks[n]), api.OK, "Retire")
		stands(t, x, 1, api.LaneState{Left: i + 1, Taken: 2 - i})
		counts(t, a, 0, 2-i)
	}
	var freed []int
	for range 6 {
		s, e := a.Alloc(0)
		must(t, e, api.OK, "Alloc")
		freed = append(freed, s.N)
	}
	if !slices.Equal(freed, []int{3, 4, 5, 1, 2, 0}) {
		t.Errorf("the free slots: %v", freed)
	}
}

// P14.3: a taken message whose slot somebody else freed is retired all the same, and no other's slot is freed with it.
func TestRetireDead(t *testing.T) {
	x, a := one(t, both, 1, 1)
	place, k := sends(t, x, 0, 5, 1)
	takes(t, x, 2, place, k, 5)
	must(t, a.Free(api.Slot{N: 0}), api.OK, "Free")
	for range 2 {
		_, e := a.Alloc(0)
		must(t, e, api.OK, "Alloc")
	}
	must(t, x.Retire(place, k), api.OK, "Retire")
	stands(t, x, place, api.LaneState{Left: 1})
	counts(t, a, 0, 2)
}

// P14.3: Reset lets all of a tenant's lane go, of two-way and of one-way ones, and nothing of another lane.
func TestReset(t *testing.T) {
	for tenant, held := range map[int]int{0: 0, 1: 1} {
		x, a := one(t, both, 4, 4)
		place, k := sends(t, x, tenant, 1, 1)
		_, k2 := sends(t, x, tenant, 2, 2)
		sends(t, x, tenant, 3, 3)
		takes(t, x, 2, place, k, 1)
		takes(t, x, 2, place, k2, 2)
		must(t, x.Retire(place, k), api.OK, "Retire")
		stands(t, x, place, api.LaneState{Left: 2 - held, Published: 1, Taken: 1, Held: held})
		p2, k4 := sends(t, x, 1-tenant, 4, 4)
		_, k3 := claims(t, x, tenant)
		must(t, x.Reset(tenant), 84, "Reset")
		must(t, x.Write(place, k3, 5), api.OK, "Write")
		must(t, x.Reset(tenant), 84, "Reset")
		stands(t, x, place, api.LaneState{Left: 1 - held, Claimed: 1, Published: 1, Taken: 1, Held: held})
		must(t, x.Publish(place, k3, at(9)), api.OK, "Publish")
		must(t, x.Reset(tenant), api.OK, "Reset")
		stands(t, x, place, api.LaneState{Left: 4, Epoch: 1})
		stands(t, x, p2, api.LaneState{Left: 3, Published: 1})
		counts(t, a, tenant, 0)
		counts(t, a, 1-tenant, 1)
		must(t, x.Retire(place, k2), api.OK, "Retire of an elder epoch's")
		must(t, x.Write(place, k3, 1), 82, "Write of an elder epoch's")
		takes(t, x, 2, p2, k4, 4)
		takesNot(t, x, 2, 142)
		_, k5 := sends(t, x, tenant, 6, 0)
		if k5 != (api.Ticket{Seq: 4, Epoch: 1}) {
			t.Errorf("behind a reset: %v", k5)
		}
		takes(t, x, 2, place, k5, 6)
	}
}

// P14.3: Reset by a tenant without a lane; and of a lane without messages.
func TestResetNone(t *testing.T) {
	x, _ := one(t, both, 1, 1)
	for _, tenant := range edges {
		want := api.Errno(140)
		if tenant == 0 || tenant == 1 {
			want = 0
		}
		must(t, x.Reset(tenant), want, "Reset")
	}
	stands(t, x, 0, api.LaneState{Left: 1, Epoch: 1})
	stands(t, x, 1, api.LaneState{Left: 1, Epoch: 1})
}

// P14.3: the slots that a Reset frees are free in the order of their messages, whatever was done to these.
func TestResetOrder(t *testing.T) {
	x, a := one(t, both, 1, 4)
	var ks []api.Ticket
	for i := range 4 {
		_, k := sends(t, x, 1, uint64(i), i)
		ks = append(ks, k)
	}
	for i := range 3 {
		takes(t, x, 2, 0, ks[i], uint64(i))
	}
	must(t, x.Retire(0, ks[2]), api.OK, "Retire")
	must(t, x.Retire(0, ks[0]), api.OK, "Retire")
	must(t, x.Reset(1), api.OK, "Reset")
	var freed []int
	for range 8 {
		s, e := a.Alloc(1)
		must(t, e, api.OK, "Alloc")
		freed = append(freed, s.N-2)
	}
	if !slices.Equal(freed, []int{4, 5, 6, 7, 0, 1, 2, 3}) {
		t.Errorf("the free slots: %v", freed)
	}
}

// P14.1 to P14.3: two channels of one tenant over one arena have lanes of their own, and share its partition.
func TestTwoChannels(t *testing.T) {
	c := mixed(both, []int{2, 1})
	a, _ := arena.New(quotas(c)...)
	x, y := made(t, c, 1, a), made(t, c, 2, a)
	px, kx := sends(t, x, 0, 10, 5)
	py, ky := sends(t, y, 0, 20, 1)
	if px != 1 || py != 0 || kx != ky {
		t.Errorf("%d, %d, %v, %v", px, py, kx, ky)
	}
	counts(t, a, 0, 2)
	takesNot(t, y, 1, 141)
	takes(t, x, 2, px, kx, 10)
	takesNot(t, x, 2, 142)
	stands(t, y, py, api.LaneState{Left: 1, Published: 1})
	must(t, y.Reset(0), api.OK, "Reset")
	counts(t, a, 0, 1)
	stands(t, x, px, api.LaneState{Left: 1, Taken: 1})
	must(t, y.Retire(py, kx), api.OK, "Retire of an elder epoch's")
	must(t, x.Retire(px, kx), api.OK, "Retire")
	counts(t, a, 0, 0)
	takesNot(t, y, 2, 142)
}
