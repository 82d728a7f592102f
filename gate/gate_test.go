package gate_test

import (
	"fmt"
	"math"
	"slices"
	"testing"

	"rampart/api"
	"rampart/audit"
	"rampart/conf"
	"rampart/gate"
)

// rows fails where a row is not the one that is wanted.
func rows(t testing.TB, what string, got []api.Record, want ...api.Record) {
	t.Helper()
	if !slices.Equal(got, want) {
		t.Errorf("%s: %v, want %v", what, got, want)
	}
}

// The chapter's example.
func TestExample(t *testing.T) {
	w := newWorld(t, settings(2, api.Gate{From: 0, To: 1, Room: 1}))
	w.releases(t, 0, 0, 77, at(1, 0), api.OK)
	if x, e := w.made.Poll(1); x != (api.Entry{Payload: 77}) || e != api.OK {
		t.Errorf("Poll = %+v, %d", x, e)
	}
	if e := w.made.Release(0, 0, 78, at(2, 0)); e != api.ErrLogged {
		t.Errorf("Release: %d", e)
	}
	rows(t, "Released", w.made.Released(2), rec(at(1, 0), 0, 77))
}

// P16.1: New of settings that may not be tells conf.Check's error.
func TestNewRefused(t *testing.T) {
	for name, x := range map[string]struct {
		want  api.Errno
		spoil func(c *api.Conf)
	}{
		"zero":             {1, func(c *api.Conf) { *c = api.Conf{} }},
		"no policy":        {20, func(c *api.Conf) { c.Flows[0] = 0 }},
		"many labels":      {3, func(c *api.Conf) { c.Flows = make([]uint64, 17) }},
		"no tenants":       {40, func(c *api.Conf) { c.Tenants = nil }},
		"many tenants":     {3, func(c *api.Conf) { c.Tenants = make([]api.Tenant, 17) }},
		"a tenant":         {40, func(c *api.Conf) { c.Tenants[1].Quota = -1 }},
		"a label":          {41, func(c *api.Conf) { c.Channels[0].Label = 3 }},
		"a lane":           {42, func(c *api.Conf) { c.Channels[0].Lanes[0].Credit = 0 }},
		"a flow":           {44, func(c *api.Conf) { c.Channels[0].Label = 1 }},
		"a receiver":       {43, func(c *api.Conf) { c.Channels[0].Receivers[0].Tenant = 3 }},
		"a quota":          {45, func(c *api.Conf) { c.Tenants[0].Quota = 1 }},
		"many gates":       {3, func(c *api.Conf) { c.Gates = slices.Repeat(c.Gates[:1], 17) }},
		"a room of 0":      {46, func(c *api.Conf) { c.Gates[2].Room = 0 }},
		"a room below 0":   {46, func(c *api.Conf) { c.Gates[0].Room = -1 }},
		"a room too great": {46, func(c *api.Conf) { c.Gates[0].Room = 1025 }},
		"from none":        {46, func(c *api.Conf) { c.Gates[1].From = -1 }},
		"to none":          {46, func(c *api.Conf) { c.Gates[1].To = 3 }},
		"a frame":          {47, func(c *api.Conf) { c.Frame = []int{0, 1} }},
		"a budget":         {48, func(c *api.Conf) { c.Budget = 17 }},
		"gate and frame":   {46, func(c *api.Conf) { c.Gates[0].Room, c.Frame = 0, nil }},
	} {
		c := against()
		x.spoil(&c)
		if _, e := conf.Check(c); e != x.want {
			t.Errorf("%s: conf.Check: %d, want %d", name, e, x.want)
		}
		if g, e := gate.New(c); g != nil || e != x.want {
			t.Errorf("%s: New = %v, %d, want %d", name, g, e, x.want)
		}
	}
}

// P16.1: new gates have empty logs and inboxes, whatever the settings.
func TestNew(t *testing.T) {
	for name, c := range map[string]api.Conf{
		"no gates":      settings(2),
		"empty gates":   settings(2, []api.Gate{}...),
		"one tenant":    settings(1),
		"to itself":     settings(1, api.Gate{Room: 1}),
		"against":       against(),
		"most":          settings(16, slices.Repeat([]api.Gate{{From: 15, To: 14, Room: 1024}}, 16)...),
		"alike gates":   settings(2, slices.Repeat([]api.Gate{{From: 0, To: 1, Room: 1}}, 3)...),
		"both of a two": settings(2, api.Gate{From: 0, To: 1, Room: 1}, api.Gate{From: 1, To: 0, Room: 1}),
	} {
		w := newWorld(t, c)
		w.right(t)
		for tenant := range c.Tenants {
			w.waits(t, tenant, 0, 0)
			w.polls(t, tenant)
			if !w.made.Room(tenant) {
				t.Errorf("%s: tenant %d has no room", name, tenant)
			}
		}
		rows(t, name, w.made.Released(every))
	}
}

// P16.1 to P16.3: settings without gates have inboxes all the same.
func TestNoGates(t *testing.T) {
	w := newWorld(t, settings(2))
	for _, n := range edges {
		w.releases(t, 0, n, 1, at(1, 0), 160)
		w.releases(t, n, 0, 1, at(1, 0), 160)
	}
	w.grants(t, 1, 3, 9, api.OK)
	w.right(t)
	w.polls(t, 1, given(3, 9))
	w.polls(t, 0)
	w.right(t)
}

// P16.1: Waiting at tenants that are none, at the last one, while nothing waits, grants alone, releases alone, and both.
func TestWaiting(t *testing.T) {
	w := newWorld(t, settings(3, api.Gate{From: 0, To: 2, Room: 9}, api.Gate{From: 1, To: 0, Room: 9}))
	w.waits(t, 2, 0, 0)
	w.grants(t, 2, 0, 1, api.OK)
	w.grants(t, 2, 0, 2, api.OK)
	w.waits(t, 2, 2, 0)
	w.releases(t, 1, 1, 5, at(1, 0), api.OK)
	w.waits(t, 0, 0, 1)
	w.releases(t, 0, 0, 5, at(2, 0), api.OK)
	w.waits(t, 2, 2, 1)
	for n := range 4 {
		w.releases(t, 0, 0, 5, at(3, n), api.OK)
	}
	w.waits(t, 2, 2, 5)
	w.waits(t, 1, 0, 0)
	w.must(t, deed{kind: "Poll", tenant: 2}, api.OK)
	w.waits(t, 2, 1, 5)
	w.must(t, deed{kind: "Poll", tenant: 2}, api.OK)
	w.waits(t, 2, 0, 5)
	w.must(t, deed{kind: "Poll", tenant: 2}, api.OK)
	w.waits(t, 2, 0, 4)
	w.grants(t, 2, 1, 1, api.OK)
	w.waits(t, 2, 1, 4)
	for _, tenant := range edges {
		if tenant < 0 || tenant > 2 {
			w.waits(t, tenant, 0, 0)
		}
	}
	w.empty(t)
}

// P16.1: Released of no tenant, of all, with numbers above the tenants, and of a tenant with several gates, in the log's order.
func TestReleased(t *testing.T) {
	w := newWorld(t, settings(3,
		api.Gate{From: 0, To: 2, Room: 3}, api.Gate{From: 1, To: 0, Room: 2}, api.Gate{From: 1, To: 2, Room: 3}, api.Gate{From: 2, To: 1, Room: 1}))
	var all []api.Record
	for n, x := range [][2]int{{1, 2}, {0, 0}, {1, 1}, {1, 2}, {0, 0}, {1, 1}, {1, 2}} {
		r := rec(at(n/2, n), x[1], uint64(100-n))
		w.releases(t, x[0], x[1], r.Payload, r.Stamp, api.OK)
		all = append(all, r)
	}
	rows(t, "of none", w.made.Released(0))
	rows(t, "of 0", w.made.Released(1), all[2], all[5])
	rows(t, "of 1", w.made.Released(2))
	rows(t, "of 2", w.made.Released(4), all[0], all[1], all[3], all[4], all[6])
	rows(t, "of 0 and 2", w.made.Released(5), all...)
	rows(t, "of 0 and 1", w.made.Released(3), all[2], all[5])
	rows(t, "of all", w.made.Released(every), all...)
	rows(t, "of numbers above", w.made.Released(every&^7))
	rows(t, "of 0 and numbers above", w.made.Released(every&^6), all[2], all[5])
	w.empty(t)
	rows(t, "polled, of all", w.made.Released(every), all...)
}

// P16.2: there is no such gate, or its From is not the tenant: ahead of all that the log would refuse.
func TestNotGate(t *testing.T) {
	w := newWorld(t, settings(3, api.Gate{From: 1, To: 2, Room: 1}, api.Gate{From: 0, To: 1, Room: 1}))
	w.releases(t, 1, 0, 5, at(4, 4), api.OK)
	for _, s := range []api.Stamp{at(1, 0), at(4, 4), at(5, 0)} { // late ones too
		for _, tenant := range edges {
			w.releases(t, tenant, -1, 5, s, 160)
			w.releases(t, tenant, 2, 5, s, 160)
			if tenant != 1 {
				w.releases(t, tenant, 0, 5, s, 160) // full too; tenant 2 is its To
			}
			if tenant != 0 {
				w.releases(t, tenant, 1, 5, s, 160) // tenant 1 is its To
			}
		}
		for _, n := range edges {
			if n < 0 || n > 1 {
				w.releases(t, 0, n, 5, s, 160)
				w.releases(t, 1, n, 5, s, 160)
			}
		}
	}
	w.empty(t)
}

// P16.2: what audit.Add refuses is refused with its error: a late stamp, of whichever gate the last one was, ahead of a full log.
func TestLateAndFull(t *testing.T) {
	w := newWorld(t, settings(2, api.Gate{From: 0, To: 1, Room: 2}, api.Gate{From: 1, To: 0, Room: 2}, api.Gate{From: 0, To: 0, Room: 1}))
	w.releases(t, 0, 0, 1, at(3, 2), api.OK)
	for n, tenant := range []int{0, 1, 0} {
		w.releases(t, tenant, n, 2, at(3, 2), 151)
		w.releases(t, tenant, n, 2, at(3, 1), 151)
		w.releases(t, tenant, n, 2, at(2, 9), 151)
	}
	w.releases(t, 1, 1, 3, at(3, 3), api.OK) // another gate in between
	w.releases(t, 0, 0, 4, at(3, 3), 151)
	w.releases(t, 0, 0, 4, at(3, 4), api.OK)
	w.releases(t, 0, 0, 5, at(3, 5), 150)
	w.releases(t, 0, 0, 5, at(3, 4), 151) // full, and late
	w.releases(t, 0, 0, 5, at(0, 0), 151)
	w.releases(t, 0, 2, 6, at(3, 5), api.OK) // what was refused is not the last one
	w.releases(t, 0, 2, 6, at(3, 5), 151)
	w.releases(t, 0, 2, 6, at(3, 6), 150)
	w.releases(t, 1, 1, 6, at(3, 6), api.OK)
	rows(t, "Released", w.made.Released(every), rec(at(3, 2), 0, 1), rec(at(3, 3), 1, 3), rec(at(3, 4), 0, 4), rec(at(3, 5), 2, 6), rec(at(3, 6), 1, 6))
	w.waits(t, 0, 0, 3)
	w.waits(t, 1, 0, 2)
	w.polls(t, 0, released(1, 3), released(2, 6), released(1, 6))
	w.polls(t, 1, released(0, 1), released(0, 4))
	w.releases(t, 0, 0, 5, at(9, 0), 150) // what was polled gives no room back
	w.empty(t)
}

// P16.2: the first release may have any stamp, any payload goes, and what is told has no more than these.
func TestAnyRelease(t *testing.T) {
	for _, tick := range edges {
		for _, payload := range []uint64{0, 1, 1 << 32, 1 << 63, math.MaxUint64} {
			w := newWorld(t, settings(2, api.Gate{From: 1, To: 1, Room: 1}, api.Gate{From: 1, To: 0, Room: 1}))
			w.releases(t, 1, 1, payload, at(tick, -tick), api.OK)
			w.polls(t, 0, api.Entry{A: 1, Payload: payload})
			w.polls(t, 1)
			rows(t, "Released", w.made.Released(1), rec(at(tick, -tick), 1, payload))
		}
	}
}

// P16.2: each gate takes just as many releases as its room is.
func TestGateRoom(t *testing.T) {
	for _, room := range []int{1, 2, 1023, 1024} {
		w := &world{made: made(t, settings(2, api.Gate{From: 0, To: 1, Room: 1}, api.Gate{From: 0, To: 1, Room: room}))}
		for n := range room {
			if e := w.made.Release(0, 1, uint64(n), at(n, 0)); e != api.OK {
				t.Fatalf("room %d: Release %d: %d", room, n, e)
			}
		}
		if e := w.made.Release(0, 1, 5, at(room, 0)); e != 150 {
			t.Errorf("room %d: Release: %d", room, e)
		}
		if e := w.made.Release(0, 0, 5, at(room, 0)); e != 0 {
			t.Errorf("room %d: Release by the other gate: %d", room, e)
		}
		if a, b := w.made.Waiting(1); a != 0 || b != room+1 {
			t.Errorf("room %d: Waiting: %d, %d", room, a, b)
		}
		if n := len(w.made.Released(2)); n != room+1 {
			t.Errorf("room %d: %d are released", room, n)
		}
	}
}

// P16.2: gates may go where the policy lets nothing flow, as that is what they are for, and a gate's From may be its To.
func TestGateSides(t *testing.T) {
	w := newWorld(t, against())
	w.releases(t, 1, 0, 5, at(0, 0), api.OK)
	w.releases(t, 0, 1, 6, at(0, 1), api.OK)
	w.releases(t, 2, 2, 7, at(0, 2), api.OK)
	w.polls(t, 0, released(0, 5), released(2, 7))
	w.polls(t, 1, released(1, 6))
	w.polls(t, 2)

	self := newWorld(t, settings(2, api.Gate{From: 1, To: 1, Room: 2}))
	self.releases(t, 1, 0, 8, at(0, 0), api.OK)
	self.releases(t, 0, 0, 8, at(0, 1), 160)
	self.grants(t, 1, 0, 3, api.OK)
	self.releases(t, 1, 0, 9, at(0, 1), api.OK)
	self.releases(t, 1, 0, 9, at(0, 2), 150)
	self.waits(t, 1, 1, 2)
	rows(t, "Released", self.made.Released(2), rec(at(0, 0), 0, 8), rec(at(0, 1), 0, 9))
	rows(t, "Released", self.made.Released(1))
	self.polls(t, 1, released(0, 8), given(0, 3), released(0, 9))
	self.polls(t, 0)
}

// hasRoom fails where Room does not tell what is wanted.
func (w *world) hasRoom(t testing.TB, tenant int, want bool) {
	t.Helper()
	if got := w.do(t, deed{kind: "Room", tenant: tenant}); got.ok != want {
		t.Fatalf("Room(%d) = %t", tenant, got.ok)
	}
}

// P16.3: Room and Grant at tenants that are none.
func TestNoTenant(t *testing.T) {
	w := newWorld(t, settings(3, api.Gate{From: 0, To: 1, Room: 1}))
	for _, tenant := range append([]int{-1, 3}, edges...) {
		if tenant < 0 || tenant > 2 {
			w.hasRoom(t, tenant, false)
			w.grants(t, tenant, 1, 1, 5)
			w.must(t, deed{kind: "Poll", tenant: tenant}, 5)
		}
	}
	for tenant := range 3 {
		w.hasRoom(t, tenant, true)
	}
	w.empty(t)
}

// P16.3: as many grants as may wait, and one more; releases among them count for nothing; a Poll of a release makes no room, that of a grant does.
func TestMaxWaiting(t *testing.T) {
	w := newWorld(t, settings(2, api.Gate{From: 0, To: 1, Room: 1024}))
	tick := 0
	release := func() {
		tick++
		w.releases(t, 0, 0, uint64(tick), at(tick, 0), api.OK)
	}
	release()
	for n := range 32 {
		w.hasRoom(t, 1, true)
		w.grants(t, 1, n, uint32(n), api.OK)
		if n%3 == 0 {
			release()
		}
	}
	w.waits(t, 1, 32, 12)
	full := func() {
		t.Helper()
		w.hasRoom(t, 1, false)
		w.hasRoom(t, 0, true)
		w.grants(t, 1, 0, 99, 161)
		w.grants(t, 1, 0, 99, 161)
	}
	full()
	release() // a release comes in at any time
	w.must(t, deed{kind: "Poll", tenant: 1}, api.OK)
	full() // the first one was a release
	w.must(t, deed{kind: "Poll", tenant: 1}, api.OK)
	w.waits(t, 1, 31, 12)
	w.hasRoom(t, 1, true)
	w.grants(t, 1, 7, 100, api.OK)
	full()
	w.grants(t, 0, 7, 100, api.OK)
	w.waits(t, 1, 32, 12)
	w.empty(t)
	w.hasRoom(t, 1, true)
	w.grants(t, 1, 7, 101, api.OK)
	w.polls(t, 1, given(7, 101))
}

// P16.3: grants alone, up to 31 and 32.
func TestGrantsAlone(t *testing.T) {
	w := newWorld(t, settings(1))
	for n := range 31 {
		w.grants(t, 0, 1, uint32(n), api.OK)
	}
	w.waits(t, 0, 31, 0)
	w.hasRoom(t, 0, true)
	w.grants(t, 0, 1, 31, api.OK)
	w.waits(t, 0, 32, 0)
	w.hasRoom(t, 0, false)
	w.grants(t, 0, 1, 32, 161)
	w.waits(t, 0, 32, 0)
	for n := range 100 { // room for one at a time, many times over
		w.must(t, deed{kind: "Poll"}, api.OK)
		w.hasRoom(t, 0, true)
		w.grants(t, 0, n, uint32(n), api.OK)
		w.hasRoom(t, 0, false)
	}
	w.empty(t)
}

// P16.3: releases alone take no grant's room.
func TestReleasesAlone(t *testing.T) {
	w := newWorld(t, settings(2, api.Gate{From: 0, To: 1, Room: 40}))
	for n := range 40 {
		w.releases(t, 0, 0, uint64(n), at(n, 0), api.OK)
	}
	w.waits(t, 1, 0, 40)
	w.hasRoom(t, 1, true)
	w.grants(t, 1, 3, 4, api.OK)
	w.waits(t, 1, 1, 40)
	w.empty(t)
}

// P16.3: a grant has any channel and any handle, and is told with just these; one of zeros is a grant all the same.
func TestAnyGrant(t *testing.T) {
	w := newWorld(t, settings(1, api.Gate{Room: 9}))
	for _, channel := range edges {
		for _, handle := range []uint32{0, 1, 65793, 1 << 31, math.MaxUint32} {
			w.grants(t, 0, channel, handle, api.OK)
			w.waits(t, 0, 1, 0)
			w.polls(t, 0, api.Entry{Grant: true, A: channel, Handle: handle})
		}
	}
	w.grants(t, 0, 0, 0, api.OK)
	w.releases(t, 0, 0, 0, at(0, 0), api.OK)
	w.grants(t, 0, 0, 0, api.OK)
	w.waits(t, 0, 2, 1)
	w.polls(t, 0, given(0, 0), released(0, 0), given(0, 0))
}

// P16.3: Poll tells grants and releases that came in turns, in the order in which they came, till nothing waits, and then what comes later.
func TestPoll(t *testing.T) {
	w := newWorld(t, settings(2, api.Gate{From: 0, To: 1, Room: 50}, api.Gate{From: 1, To: 1, Room: 50}))
	for round := range 5 {
		w.polls(t, 1)
		var want []api.Entry
		for n := range 6 {
			id := round*10 + n
			w.releases(t, n%2, n%2, uint64(id), at(id, 0), api.OK)
			w.grants(t, 1, id, uint32(n), api.OK)
			want = append(want, released(n%2, uint64(id)), given(id, uint32(n)))
		}
		w.polls(t, 1, want...)
		w.polls(t, 0)
	}
	w.right(t)
}

// P16.3: each tenant polls its own inbox alone.
func TestOwnInbox(t *testing.T) {
	c := settings(16)
	for tenant := range 16 {
		c.Gates = append(c.Gates, api.Gate{From: tenant, To: tenant * 5 % 16, Room: 2})
	}
	w := newWorld(t, c)
	for n := range 16 {
		w.grants(t, n, n, uint32(n), api.OK)
		w.releases(t, n, n, uint64(n)+50, at(0, n), api.OK)
	}
	w.right(t)
	for n := range 16 {
		w.waits(t, n, 1, 1)
		rows(t, fmt.Sprint("Released of ", n*5%16), w.made.Released(1<<(n*5%16)), rec(at(0, n), n, uint64(n)+50))
	}
	w.empty(t)
}

// P16.1, P16.2: the logs are what package audit's would be, of the same rooms and records.
func TestLikeAudit(t *testing.T) {
	d := dice(163)
	for range 60 {
		c := d.settings()
		var rooms []int
		for _, x := range c.Gates {
			rooms = append(rooms, x.Room)
		}
		logs, _ := audit.New(rooms...)
		w := newWorld(t, c)
		for range 60 {
			x := d.deed(w)
			if x.kind != "Release" || x.n < 0 || x.n >= len(c.Gates) || x.tenant != c.Gates[x.n].From {
				continue
			}
			want := logs.Add(rec(x.at, x.n, x.payload))
			w.must(t, x, want)
		}
		if all := w.made.Released(every); !audit.Same(all, logs.All(every)) {
			t.Fatalf("Released: %v, logged %v", all, logs.All(every))
		}
	}
}
