package channel_test

import (
	"slices"
	"testing"

	"rampart/api"
	"rampart/arena"
	"rampart/channel"
)

// mixed are settings of so many senders, each of them two-way or one-way, with a credit each, and of two tenants behind them that receive; label 0 flows to 1. Channel 0 is nobody's, channel 1 has all lanes, the last tenant's first, channel 2 too, the first tenant's first. Tenant 0 receives too where it may.
func mixed(ways []bool, credits []int) api.Conf {
	c := api.Conf{Flows: []uint64{3, 2}, Channels: []api.Channel{{}, {Label: 1}, {Label: 1}}, Budget: 1, Requests: 1, Pending: 1}
	for i, twoway := range ways {
		label := 0
		if twoway {
			label = 1
		}
		c.Tenants = append(c.Tenants, api.Tenant{Label: label, Quota: 2 * credits[i]})
		l := api.Lane{Tenant: i, Credit: credits[i], Opens: twoway}
		c.Channels[1].Lanes = slices.Insert(c.Channels[1].Lanes, 0, l)
		c.Channels[2].Lanes = append(c.Channels[2].Lanes, l)
	}
	takers := []int{len(ways), len(ways) + 1}
	if len(ways) > 0 && ways[0] {
		takers = append(takers, 0)
	}
	for _, tenant := range takers {
		c.Channels[1].Receivers = append(c.Channels[1].Receivers, api.Receiver{Tenant: tenant})
		c.Channels[2].Receivers = append(c.Channels[2].Receivers, api.Receiver{Tenant: tenant, Opens: true})
	}
	c.Tenants = append(c.Tenants, api.Tenant{Label: 1}, api.Tenant{Label: 1})
	for i := range c.Tenants {
		c.Frame = append(c.Frame, i)
	}
	return c
}

// quotas are the settings' tenants' ones.
func quotas(c api.Conf) []int {
	var l []int
	for _, t := range c.Tenants {
		l = append(l, t.Quota)
	}
	return l
}

// newPlain is a plain channel, with lanes that are two-way or not by their tenants' ways.
func newPlain(ch api.Channel, ways []bool, a *plainArena) *plain {
	p := &plain{arena: a}
	for _, l := range ch.Lanes {
		p.lanes = append(p.lanes, &plainLane{tenant: l.Tenant, credit: l.Credit, twoway: ways[l.Tenant]})
	}
	for _, r := range ch.Receivers {
		p.takers = append(p.takers, r.Tenant)
	}
	return p
}

// newWorld is channels of mixed settings over an arena of these partitions.
func newWorld(t testing.TB, name string, ways []bool, credits []int, parts []int, channels ...int) *world {
	t.Helper()
	c := mixed(ways, credits)
	a, e := arena.New(parts...)
	must(t, e, api.OK, "arena.New")
	w, pa := &world{name: name, arena: a}, newPlainArena(parts)
	for _, n := range channels {
		w.made = append(w.made, made(t, c, n, a))
		w.plains = append(w.plains, newPlain(c.Channels[n], ways, pa))
	}
	return w
}

// made is a channel that New made.
func made(t testing.TB, c api.Conf, n int, a *arena.Arena) *channel.Channel {
	t.Helper()
	x, e := channel.New(c, n, a)
	if x == nil || e != api.OK {
		t.Fatalf("New: %v, %d", x, e)
	}
	return x
}

// one is channel 1 of mixed settings, over an arena of the tenants' quotas.
func one(t testing.TB, ways []bool, credits ...int) (*channel.Channel, *arena.Arena) {
	t.Helper()
	c := mixed(ways, credits)
	a, e := arena.New(quotas(c)...)
	must(t, e, api.OK, "arena.New")
	return made(t, c, 1, a), a
}

// must holds an error against what it must be.
func must(t testing.TB, got, want api.Errno, what string) {
	t.Helper()
	if got != want {
		t.Fatalf("%s: %d, want %d", what, got, want)
	}
}

// claims claims a message: its lane's place, its ticket.
func claims(t testing.TB, x *channel.Channel, tenant int) (int, api.Ticket) {
	t.Helper()
	place, k, e := x.Claim(tenant)
	must(t, e, api.OK, "Claim")
	return place, k
}

// sends claims, writes and publishes a message, at a tick.
func sends(t testing.TB, x *channel.Channel, tenant int, payload uint64, tick int) (int, api.Ticket) {
	t.Helper()
	place, k := claims(t, x, tenant)
	must(t, x.Write(place, k, payload), api.OK, "Write")
	must(t, x.Publish(place, k, api.Stamp{Tick: tick}), api.OK, "Publish")
	return place, k
}

// takes is what a Take must tell.
func takes(t testing.TB, x *channel.Channel, tenant, place int, k api.Ticket, payload uint64) {
	t.Helper()
	if gotPlace, got, p, e := x.Take(tenant); gotPlace != place || got != k || p != payload || e != api.OK {
		t.Fatalf("Take(%d) = %d, %v, %d, %d, want %d, %v, %d", tenant, gotPlace, got, p, e, place, k, payload)
	}
}

// takesNot is the error that a Take must tell, all else zero.
func takesNot(t testing.TB, x *channel.Channel, tenant int, want api.Errno) {
	t.Helper()
	if place, k, p, e := x.Take(tenant); place != 0 || k != (api.Ticket{}) || p != 0 || e != want {
		t.Fatalf("Take(%d) = %d, %v, %d, %d, want error %d", tenant, place, k, p, e, want)
	}
}

// claimsNot is the error that a Claim must tell, all else zero.
func claimsNot(t testing.TB, x *channel.Channel, tenant int, want api.Errno) {
	t.Helper()
	if place, k, e := x.Claim(tenant); place != 0 || k != (api.Ticket{}) || e != want {
		t.Fatalf("Claim(%d) = %d, %v, %d, want error %d", tenant, place, k, e, want)
	}
}

// stands holds a lane's State against what it must be.
func stands(t testing.TB, x *channel.Channel, place int, want api.LaneState) {
	t.Helper()
	if got, e := x.State(place); got != want || e != api.OK {
		t.Fatalf("State(%d) = %+v, %d, want %+v", place, got, e, want)
	}
}

// counts is how many slots of a partition must be held.
func counts(t testing.TB, a *arena.Arena, part, want int) {
	t.Helper()
	if held, _, e := a.Counts(part); held != want || e != api.OK {
		t.Fatalf("Counts(%d): %d are held, %d, want %d", part, held, e, want)
	}
}
