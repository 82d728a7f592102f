package gate_test

import (
	"slices"
	"testing"

	"rampart/api"
)

// logged are the entries that records are polled as.
func logged(l []api.Record) []api.Entry {
	var out []api.Entry
	for _, r := range l {
		out = append(out, released(r.Gate, r.Payload))
	}
	return out
}

// P16.4: at all times, what a tenant polled of releases is what Released of it begins with, and what waits of them is the rest.
func TestLoggedFirst(t *testing.T) {
	d := dice(164)
	told := 0
	for range 120 {
		c := d.settings()
		w := newWorld(t, c)
		polled := make([][]api.Entry, len(c.Tenants))
		poll := func(tenant int) bool {
			x, e := w.made.Poll(tenant)
			if e == api.OK && !x.Grant {
				polled[tenant] = append(polled[tenant], x)
				told++
			}
			return e == api.OK
		}
		for range 80 {
			x := d.deed(w)
			if x.kind == "Poll" && w.plain.is(x.tenant) {
				w.plain.do(x)
				poll(x.tenant)
			} else {
				w.do(t, x)
			}
			for tenant := range c.Tenants {
				all := logged(w.made.Released(1 << tenant))
				_, waits := w.made.Waiting(tenant)
				if n := len(polled[tenant]); n+waits != len(all) || !slices.Equal(polled[tenant], all[:n]) {
					t.Fatalf("gates %v, tenant %d: polled %v, %d wait, logged %v", c.Gates, tenant, polled[tenant], waits, all)
				}
			}
		}
		for tenant := range c.Tenants {
			for poll(tenant) {
			}
			if all := logged(w.made.Released(1 << tenant)); !slices.Equal(polled[tenant], all) {
				t.Fatalf("gates %v, tenant %d: polled %v, logged %v", c.Gates, tenant, polled[tenant], all)
			}
		}
	}
	if told < 500 {
		t.Errorf("no more than %d releases were polled", told)
	}
}

// P16.5: once a gate's room is spent, no release of it comes into any inbox or log, whatever is tried; other gates go on.
func TestFull(t *testing.T) {
	d := dice(165)
	tried := 0
	for range 100 {
		c := d.settings()
		c.Gates = append(c.Gates, api.Gate{From: d.to(len(c.Tenants)), To: d.to(len(c.Tenants)), Room: 1 + d.to(3)})
		c.Gates = c.Gates[max(0, len(c.Gates)-16):]
		full := len(c.Gates) - 1
		w := newWorld(t, c)
		for n := range c.Gates[full].Room {
			w.releases(t, c.Gates[full].From, full, 7, at(n, 0), api.OK)
		}
		for tenant := range c.Tenants {
			w.polls(t, tenant, slices.Clone(w.plain.waits(tenant))...)
		}
		for range 60 {
			x := d.deed(w)
			if d.to(2) == 0 {
				x.kind, x.n, x.tenant = "Release", full, c.Gates[full].From
			}
			got := w.do(t, x)
			if x.kind == "Release" && x.n == full {
				tried++
				if got.e == api.OK {
					t.Fatalf("gates %v: %+v is OK", c.Gates, x)
				}
			}
			if x.kind == "Poll" && got.e == api.OK && !got.x.Grant && got.x.A == full {
				t.Fatalf("gates %v: Poll tells %+v", c.Gates, got.x)
			}
		}
		n := 0
		for _, r := range w.made.Released(every) {
			if r.Gate == full {
				n++
			}
		}
		if n != c.Gates[full].Room {
			t.Fatalf("gates %v: %d are logged", c.Gates, n)
		}
	}
	if tried < 1000 {
		t.Errorf("no more than %d were tried", tried)
	}
}

// ring are settings of four tenants, each of whom has a gate to each: gate 4 f + t from f to t.
func ring(d *dice) api.Conf {
	c := settings(4)
	for n := range 16 {
		c.Gates = append(c.Gates, api.Gate{From: n / 4, To: n % 4, Room: 1 + d.to(4)})
	}
	return c
}

// noise has all tenants but one do all sorts of things in a tick, with stamps from step 100 on: that one's gates release nothing.
func (d *dice) noise(t testing.TB, w *world, tick, but int) {
	for step := range d.to(12) {
		x := d.deed(w)
		x.at = at(tick, 100+step)
		if x.kind == "Release" && x.tenant == but {
			x.kind = "Waiting"
		}
		w.do(t, x)
	}
}

// P16.6: what Release tells a tenant is the same, whatever others released, were granted and polled, as long as its stamps stand behind theirs.
func TestReleaseAlone(t *testing.T) {
	d := dice(166)
	answers := map[api.Errno]int{}
	for range 150 {
		c := ring(&d)
		a, b, mine := newWorld(t, c), newWorld(t, c), d.to(4)
		var last []api.Stamp // of its own releases
		for tick := range 12 {
			for step := range d.to(4) {
				x := deed{kind: "Release", tenant: mine, n: d.to(18) - 1, payload: uint64(d.to(100)), at: at(tick, step)}
				if d.to(5) == 0 && len(last) > 0 {
					x.at = last[d.to(len(last))]
				}
				if d.to(3) > 0 {
					x.n = 4*mine + d.to(4)
				}
				one, two := a.do(t, x), b.do(t, x)
				if one != two {
					t.Fatalf("%+v: %+v, and %+v", x, one, two)
				}
				answers[one.e]++
				if one.e == api.OK {
					last = append(last, x.at)
				}
			}
			d.noise(t, a, tick, mine)
			d.noise(t, b, tick, mine)
		}
	}
	for _, e := range []api.Errno{0, 150, 151, 160} {
		if answers[e] < 100 {
			t.Errorf("answers were %v", answers)
		}
	}
}

// comes is a deed by which something comes to a tenant, or by which it looks.
func (d *dice) comes(mine, tick, step int) deed {
	x := deed{tenant: mine, n: d.to(40), handle: uint32(d.to(1 << 20)), payload: uint64(d.to(1000)), at: at(tick, step)}
	switch d.to(5) {
	case 0:
		from := (mine + 1 + d.to(3)) % 4
		x.kind, x.n, x.tenant = "Release", 4*from+mine, from
	case 1, 2:
		x.kind = "Grant"
	case 3:
		x.kind = "Poll"
	default:
		x.kind = "Room"
	}
	return x
}

// others have all sorts of things come to all tenants but one, who polls nothing either, with stamps from step 100 on.
func (d *dice) others(t testing.TB, w *world, tick, but int) {
	for step := range d.to(12) {
		x := d.deed(w)
		x.at = at(tick, 100+step)
		if x.tenant == but && x.kind != "Release" || x.kind == "Release" && x.n >= 0 && x.n%4 == but {
			x.kind = "Released"
		}
		w.do(t, x)
	}
}

// P16.6: what Poll and Room tell of a tenant is the same, whatever came to others, and whatever these polled.
func TestInboxAlone(t *testing.T) {
	d := dice(167)
	answers := map[string]int{}
	for range 150 {
		c := ring(&d)
		a, b, mine := newWorld(t, c), newWorld(t, c), d.to(4)
		for tick := range 40 {
			for step := range 4 {
				x := d.comes(mine, tick, step)
				if tick%20 < 10 && x.kind == "Poll" {
					x.kind = "Grant"
				} else if tick%20 >= 10 && x.kind == "Grant" {
					x.kind = "Poll"
				}
				one, two := a.do(t, x), b.do(t, x)
				if one != two {
					t.Fatalf("%+v: %+v, and %+v", x, one, two)
				}
				if x.kind == "Room" && !one.ok || one.e != 0 {
					answers[x.kind]++
				}
			}
			d.others(t, a, tick, mine)
			d.others(t, b, tick, mine)
		}
	}
	for _, kind := range []string{"Release", "Grant", "Poll", "Room"} {
		if answers[kind] < 20 {
			t.Errorf("refused were %v", answers)
		}
	}
}
