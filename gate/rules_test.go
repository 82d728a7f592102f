package gate_test

import (
	"fmt"
	"slices"
	"sync"
	"testing"

	"rampart/api"
	"rampart/conf"
	"rampart/gate"
)

// notMade is what a call answers where New made no gates.
func notMade(kind string) told {
	switch kind {
	case "Room", "Waiting":
		return told{}
	case "Released":
		return told{rows: text(nil)}
	}
	return told{e: 4}
}

// Rules 1 and 3: gates that are nil, or that New did not make, whatever they are asked.
func TestNotMade(t *testing.T) {
	spoilt, _ := gate.New(api.Conf{})
	for name, g := range map[string]*gate.Gates{"nil": nil, "hand-made": {}, "new": new(gate.Gates), "refused": spoilt} {
		for _, n := range edges {
			for _, m := range edges {
				for _, kind := range names {
					d := deed{kind: kind, tenant: n, n: m, payload: uint64(m), at: at(n, m), handle: uint32(m), set: uint64(n)}
					if got := do(g, d); got != notMade(kind) {
						t.Errorf("%s: %+v: %+v", name, d, got)
					}
				}
			}
		}
		for _, s := range someSets {
			rows(t, name, g.Released(s))
		}
	}
}

// choices are the deeds of which all short rows are made: by, to and at all tenants and gates, and those one behind, with some stamps.
func choices(tenants, gates int) []deed {
	var out []deed
	for tenant := -1; tenant <= tenants; tenant++ {
		out = append(out, deed{kind: "Poll", tenant: tenant}, deed{kind: "Grant", tenant: tenant, n: 4, handle: 5})
		for n := -1; n <= gates; n++ {
			for tick := range 3 {
				out = append(out, deed{kind: "Release", tenant: tenant, n: n, payload: uint64(10*tick + n), at: at(tick, 0)})
			}
		}
	}
	return out
}

// again is new gates to which the deeds of a row were done.
func again(t testing.TB, c api.Conf, l []deed) *world {
	t.Helper()
	w := newWorld(t, c)
	for _, d := range l {
		w.do(t, d)
	}
	return w
}

// key is a text of all that stands in a plain one.
func (p *plain) key() string { return fmt.Sprint(p.all, p.came, p.polled) }

// P16.1 to P16.3, rules 1 and 2: all gates to which a short row of deeds leads, and each deed there: those that are refused tell their errors, and change nothing.
func TestAllShortRows(t *testing.T) {
	for _, c := range []api.Conf{
		settings(1, api.Gate{Room: 2}),
		settings(2, api.Gate{From: 0, To: 1, Room: 1}),
		settings(2, api.Gate{From: 0, To: 1, Room: 2}, api.Gate{From: 1, To: 1, Room: 1}),
	} {
		seen := map[string]bool{}
		level := [][]deed{nil}
		for range 5 {
			var next [][]deed
			for _, l := range level {
				w := again(t, c, l)
				before := w.plain.key()
				for _, d := range choices(len(c.Tenants), len(c.Gates)) {
					got := w.do(t, d)
					w.right(t)
					after := w.plain.key()
					if (got.e == api.OK) != (after != before) {
						t.Fatalf("%+v: %+v: %d", l, d, got.e)
					}
					if got.e != api.OK {
						continue
					}
					if !seen[after] {
						seen[after] = true
						next = append(next, append(slices.Clip(l), d))
					}
					w = again(t, c, l)
				}
				w.empty(t)
			}
			level = next
		}
		if len(seen) < 100 {
			t.Errorf("%v: no more than %d gates", c.Gates, len(seen))
		}
	}
}

// P16.1 to P16.3, rules 1 and 2: long rows of deeds, wrong ones among them, behind which all is told as the chapter's words say.
func TestLongRows(t *testing.T) {
	d := dice(16)
	answers := map[string]int{}
	for n := range 100 {
		w := newWorld(t, d.settings())
		for range 300 {
			x := d.deed(w)
			if n%2 == 0 && x.kind == "Poll" && d.to(3) > 0 { // so that inboxes are full at times
				x.kind, x.tenant = "Grant", 0
			}
			got := w.do(t, x)
			answers[fmt.Sprint(x.kind, int(got.e))]++
			if x.kind == "Room" && got.ok {
				answers["Room"]++
			}
		}
		w.right(t)
		w.empty(t)
	}
	for _, kind := range []string{"Release0", "Release160", "Release151", "Release150", "Grant0", "Grant5", "Grant161", "Poll0", "Poll5", "Poll162", "Room"} {
		if answers[kind] < 100 {
			t.Errorf("%s: no more than %d of %v", kind, answers[kind], answers)
		}
	}
}

// P16.1 to P16.3, rule 1: any numbers, ahead of all else and behind much.
func TestAnyNumbers(t *testing.T) {
	d := dice(17)
	edge := func() int { return edges[d.to(len(edges))] }
	for range 60 {
		w := newWorld(t, d.settings())
		for range 200 {
			x := d.deed(w)
			switch d.to(3) {
			case 0:
				x = deed{kind: x.kind, tenant: edge(), n: edge(), payload: uint64(edge()), at: at(edge(), edge()), handle: uint32(edge()), set: uint64(edge())}
			case 1:
				x.at = at(x.at.Tick, edge())
			}
			w.do(t, x)
		}
		w.right(t)
		w.empty(t)
	}
}

// P16.1 to P16.4: as many tenants, gates and rooms as may be, all of them spent, all grants waiting.
func TestGreatest(t *testing.T) {
	c := settings(16)
	for n := range 16 {
		c.Gates = append(c.Gates, api.Gate{From: n, To: (n + 1) / 2, Room: 1024})
	}
	g := made(t, c)
	var all []api.Record
	for n := range 16 * 1024 {
		r := rec(at(n/16, n%16), n*5%16, uint64(n))
		if e := g.Release(r.Gate, r.Gate, r.Payload, r.Stamp); e != api.OK {
			t.Fatalf("Release %+v: %d", r, e)
		}
		all = append(all, r)
	}
	rows(t, "Released", g.Released(every), all...)
	for n := range 16 {
		if e := g.Release(n, n, 1, at(5000, 0)); e != 150 {
			t.Errorf("Release by %d: %d", n, e)
		}
		for k := range 33 {
			if e := g.Grant(n, k, uint32(k)); (e == api.OK) != (k < 32) {
				t.Errorf("Grant %d to %d: %d", k, n, e)
			}
		}
	}
	for n := range 16 {
		want := logged(g.Released(1 << n))
		if a, b := g.Waiting(n); a != 32 || b != len(want) {
			t.Errorf("Waiting(%d) = %d, %d, want 32, %d", n, a, b, len(want))
		}
		for k := range 32 {
			want = append(want, given(k, uint32(k)))
		}
		for k, x := range want {
			if got, e := g.Poll(n); got != x || e != api.OK {
				t.Fatalf("Poll(%d) %d = %+v, %d, want %+v", n, k, got, e, x)
			}
		}
		if _, e := g.Poll(n); e != 162 {
			t.Errorf("Poll(%d): %d", n, e)
		}
	}
}

// busy is gates of four tenants with something in all inboxes but that of tenant 3.
func busy(t testing.TB) *world {
	w := newWorld(t, settings(4,
		api.Gate{From: 0, To: 1, Room: 2}, api.Gate{From: 1, To: 0, Room: 3}, api.Gate{From: 2, To: 1, Room: 4}, api.Gate{From: 2, To: 2, Room: 5}))
	for n := range 32 {
		w.grants(t, 2, n, uint32(n), api.OK)
	}
	w.grants(t, 0, 7, 7, api.OK)
	for n, gate := range []int{2, 0, 1, 3, 0, 2} {
		w.releases(t, w.plain.gates[gate].From, gate, uint64(100+n), at(n, 1), api.OK)
	}
	return w
}

// Rule 2: whatever is refused changes nothing, however often.
func TestRefusedChangesNothing(t *testing.T) {
	w := busy(t)
	before := w.plain.key()
	for range 3 {
		for _, n := range []int{-1, 4} {
			w.releases(t, 0, n, 1, at(9, 0), 160)
			w.releases(t, n, 0, 1, at(9, 0), 160)
			w.grants(t, n, 0, 1, 5)
			w.must(t, deed{kind: "Poll", tenant: n}, 5)
		}
		w.releases(t, 1, 0, 1, at(9, 0), 160)
		w.releases(t, 2, 2, 1, at(5, 1), 151)
		w.releases(t, 2, 2, 1, at(0, 0), 151)
		w.releases(t, 0, 0, 1, at(9, 0), 150)
		w.grants(t, 2, 0, 1, 161)
		w.must(t, deed{kind: "Poll", tenant: 3}, 162)
		w.right(t)
	}
	if w.plain.key() != before {
		t.Error("what was refused changed something")
	}
	w.releases(t, 2, 2, 1, at(5, 2), api.OK)
	w.empty(t)
}

// spoil writes all over a row, up to the end of its room and behind it.
func spoil(l []api.Record) {
	mark := rec(at(-7, -7), -7, 7)
	room := l[:cap(l)]
	for i := range room {
		room[i] = mark
	}
	_ = append(l, mark, mark)
}

// Rule 4: what Released tells may be changed, up to the end of its room, without changing the gates or another answer; nor does an answer change as more is released.
func TestNewMemory(t *testing.T) {
	for _, s := range []uint64{1, 2, 4, 7, every} {
		w := busy(t)
		one, two, want := w.made.Released(s), w.made.Released(s), busy(t).made.Released(s)
		spoil(one)
		w.right(t)
		rows(t, "told twice", two, want...)
		w.releases(t, 2, 2, 9, at(50, 0), api.OK)
		w.releases(t, 2, 3, 9, at(51, 0), api.OK)
		w.releases(t, 1, 1, 9, at(52, 0), api.OK)
		spoil(w.made.Released(s))
		w.right(t)
		rows(t, "told ahead", two, want...)
		w.empty(t)
	}
}

// Rule 4: New changes no settings, and what is written into them later changes no gates.
func TestSettings(t *testing.T) {
	c, kept := against(), against()
	room := append(c.Gates, api.Gate{From: -5}, api.Gate{To: -5})
	c.Gates = room[:3]
	w := newWorld(t, c)
	if !conf.Same(c, kept) || room[3] != (api.Gate{From: -5}) || room[4] != (api.Gate{To: -5}) {
		t.Errorf("New changed its settings: %+v", c)
	}
	for i := range room {
		room[i] = api.Gate{From: 2, To: 2, Room: 1}
	}
	for i := range c.Tenants {
		c.Tenants[i] = api.Tenant{Label: 9, Quota: -1}
	}
	c.Flows[0], c.Frame[0], c.Channels[0] = 0, 9, api.Channel{}
	w.releases(t, 1, 0, 5, at(0, 0), api.OK)
	w.releases(t, 1, 0, 6, at(0, 1), api.OK)
	w.releases(t, 1, 0, 7, at(0, 2), 150)
	w.releases(t, 0, 1, 7, at(0, 2), api.OK)
	w.releases(t, 2, 1, 7, at(0, 3), 160)
	w.releases(t, 0, 3, 7, at(0, 3), 160)
	w.right(t)
	w.empty(t)
}

// Rule 4: nil and empty lists are the same.
func TestNilAndEmpty(t *testing.T) {
	c := settings(2)
	c.Channels, c.Gates = []api.Channel{}, []api.Gate{}
	for _, c := range []api.Conf{c, settings(2)} {
		w := newWorld(t, c)
		w.grants(t, 1, 2, 3, api.OK)
		w.releases(t, 0, 0, 1, at(1, 0), 160)
		w.right(t)
		w.empty(t)
	}
}

// A copy of the struct is one with it: what is done to either is told by both.
func TestCopied(t *testing.T) {
	w := busy(t)
	copied := *w.made
	other := &world{&copied, w.plain}
	w.releases(t, 2, 2, 5, at(9, 0), api.OK)
	other.right(t)
	other.releases(t, 2, 2, 5, at(9, 0), 151)
	other.releases(t, 2, 2, 5, at(9, 1), api.OK)
	other.grants(t, 3, 1, 1, api.OK)
	w.right(t)
	w.must(t, deed{kind: "Poll", tenant: 1}, api.OK)
	other.must(t, deed{kind: "Poll", tenant: 1}, api.OK)
	w.right(t)
	other.empty(t)
	w.right(t)
}

// Rule 5: gates that are given the same tell the same, whatever others are given meanwhile; from several sides at once too.
func TestOthers(t *testing.T) {
	d := dice(5)
	c := ring(&d)
	alone := newWorld(t, c)
	var deeds []deed
	var want []told
	for range 600 {
		x := d.deed(alone)
		deeds, want = append(deeds, x), append(want, alone.do(t, x))
	}
	once := func() {
		g, _ := gate.New(c)
		other, _ := gate.New(c)
		for i, x := range deeds {
			g.Waiting(x.tenant)
			g.Room(x.tenant)
			g.Released(x.set)
			if got := do(g, x); got != want[i] {
				t.Errorf("%+v: %+v, alone %+v", x, got, want[i])
				return
			}
			do(other, deeds[len(deeds)-1-i])
		}
	}
	once()
	var all sync.WaitGroup
	for range 8 {
		all.Go(once)
	}
	all.Wait()
}

// Rule 5: who asks changes nothing: the same gates may be asked from several sides at once.
func TestAskedAtOnce(t *testing.T) {
	w := busy(t)
	var asked []deed
	for tenant := -1; tenant < 6; tenant++ {
		asked = append(asked, deed{kind: "Room", tenant: tenant}, deed{kind: "Waiting", tenant: tenant})
	}
	for _, s := range someSets {
		asked = append(asked, deed{kind: "Released", set: s})
	}
	once := func() {
		for _, x := range asked {
			if got, want := do(w.made, x), w.plain.do(x); got != want {
				t.Errorf("%+v: %+v, want %+v", x, got, want)
			}
		}
	}
	var all sync.WaitGroup
	for range 8 {
		all.Go(once)
	}
	all.Wait()
}

// Any bytes, read as gates and deeds.
func FuzzGates(f *testing.F) {
	f.Add([]byte{2, 1, 0, 1, 1, 0, 0, 0, 1, 3, 1, 0, 0})
	f.Add([]byte{3, 0})
	f.Add([]byte{1, 1, 0, 0, 9, 2, 0, 1, 1, 2, 0, 1, 1, 3, 0, 0, 0})
	f.Fuzz(func(t *testing.T, b []byte) {
		if len(b) < 2 || len(b) > 500 {
			return
		}
		c := settings(1 + int(b[0]%16))
		gates, l := int(b[1]%17), b[2:]
		for ; gates > 0 && len(l) >= 3; gates-- {
			c.Gates = append(c.Gates, api.Gate{From: int(l[0]) % len(c.Tenants), To: int(l[1]) % len(c.Tenants), Room: 1 + int(l[2])})
			l = l[3:]
		}
		w := newWorld(t, c)
		for x := range slices.Chunk(l, 4) {
			if len(x) == 4 {
				n := int(int8(x[2]))
				w.do(t, deed{kind: names[int(x[0])%len(names)], tenant: int(int8(x[1])), n: n, payload: uint64(x[3]), at: at(int(x[3])/4, n), handle: uint32(x[3]), set: uint64(x[1])<<8 | uint64(x[3])})
			}
		}
		w.right(t)
		w.empty(t)
	})
}
