package gate_test

import (
	"fmt"
	"math"
	"slices"
	"testing"

	"rampart/api"
	"rampart/gate"
)

// every is the set of all numbers.
const every uint64 = math.MaxUint64

// edges are numbers at which something ends, and some that are far from all of them.
var edges = []int{
	math.MinInt, math.MinInt + 1, -1 << 32, -1025, -17, -2, -1, 0, 1, 2, 3, 15, 16, 17, 31, 32, 33, 63, 64, 65, 1023, 1024, 1025,
	1 << 20, 1<<20 + 1, 1 << 32, math.MaxInt - 1, math.MaxInt,
}

// someSets are sets of tenants: none, single ones at the edges, all, and mixed ones.
var someSets = []uint64{0, 1, 2, 3, 4, 5, 6, 7, 1 << 15, 1<<16 - 1, 1 << 16, 1 << 63, every &^ 7, every &^ 2, every &^ 1, 0xaaaaaaaaaaaaaaaa, every}

// at is a stamp.
func at(tick, step int) api.Stamp { return api.Stamp{Tick: tick, Step: step} }

// rec is a record.
func rec(s api.Stamp, gate int, payload uint64) api.Record {
	return api.Record{Stamp: s, Gate: gate, Payload: payload}
}

// released is a release as it is polled.
func released(gate int, payload uint64) api.Entry { return api.Entry{A: gate, Payload: payload} }

// given is a grant as it is polled.
func given(channel int, handle uint32) api.Entry {
	return api.Entry{Grant: true, A: channel, Handle: handle}
}

// stands tells whether the first stamp stands ahead of the second one.
func stands(a, b api.Stamp) bool {
	if a.Tick != b.Tick {
		return a.Tick < b.Tick
	}
	return a.Step < b.Step
}

// settings are some with so many tenants, all of one label, and gates.
func settings(tenants int, gates ...api.Gate) api.Conf {
	c := api.Conf{Flows: []uint64{1}, Tenants: make([]api.Tenant, tenants), Gates: gates, Budget: 1, Requests: 1, Pending: 1}
	for tenant := range tenants {
		c.Frame = append(c.Frame, tenant)
	}
	return c
}

// against are settings whose gates go where no label may flow: from label 1 to label 0, and back.
func against() api.Conf {
	c := settings(3, api.Gate{From: 1, To: 0, Room: 2}, api.Gate{From: 0, To: 1, Room: 1}, api.Gate{From: 2, To: 0, Room: 3})
	c.Flows = []uint64{5, 2, 4}
	c.Tenants = []api.Tenant{{Label: 0, Quota: 2}, {Label: 1}, {Label: 2}}
	c.Channels = []api.Channel{{Label: 2, Lanes: []api.Lane{{Tenant: 0, Credit: 2, Opens: true}}, Receivers: []api.Receiver{{Tenant: 2, Opens: true}}}}
	return c
}

// plain is gates as the chapter's words have them: one row of all that was logged, and of each tenant a row of all that ever came into its inbox, with how much of it was polled.
type plain struct {
	gates  []api.Gate
	all    []api.Record
	came   [][]api.Entry
	polled []int
}

// newPlain is the plain gates of settings.
func newPlain(c api.Conf) *plain {
	return &plain{gates: slices.Clone(c.Gates), came: make([][]api.Entry, len(c.Tenants)), polled: make([]int, len(c.Tenants))}
}

// deed is a call: of which kind, and what it is called with.
type deed struct {
	kind    string
	tenant  int
	n       int // a gate, or a channel
	payload uint64
	at      api.Stamp
	handle  uint32
	set     uint64
}

// told is what a call answers, all of it, rows as texts.
type told struct {
	x    api.Entry
	ok   bool
	a, b int
	rows string
	e    api.Errno
}

// names are the kinds of all calls.
var names = []string{"Release", "Room", "Grant", "Poll", "Waiting", "Released"}

// text is a row as a text, the same one for nil and for empty ones.
func text(l []api.Record) string { return fmt.Sprintf("%d: %v", len(l), l) }

// do calls gates.
func do(g *gate.Gates, d deed) (got told) {
	switch d.kind {
	case "Release":
		got.e = g.Release(d.tenant, d.n, d.payload, d.at)
	case "Room":
		got.ok = g.Room(d.tenant)
	case "Grant":
		got.e = g.Grant(d.tenant, d.n, d.handle)
	case "Poll":
		got.x, got.e = g.Poll(d.tenant)
	case "Waiting":
		got.a, got.b = g.Waiting(d.tenant)
	case "Released":
		got.rows = text(g.Released(d.set))
	default:
		panic(d.kind)
	}
	return got
}

// is tells whether there is a tenant.
func (p *plain) is(tenant int) bool { return tenant >= 0 && tenant < len(p.came) }

// waits is what waits for a tenant.
func (p *plain) waits(tenant int) []api.Entry {
	if !p.is(tenant) {
		return nil
	}
	return p.came[tenant][p.polled[tenant]:]
}

// waiting is how many grants wait, and how many releases.
func (p *plain) waiting(tenant int) (grants, releases int) {
	for _, x := range p.waits(tenant) {
		if x.Grant {
			grants++
		} else {
			releases++
		}
	}
	return grants, releases
}

// to are the records of the gates to some tenants.
func (p *plain) to(set uint64) []api.Record {
	var l []api.Record
	for _, r := range p.all {
		if set/(1<<p.gates[r.Gate].To)%2 == 1 {
			l = append(l, r)
		}
	}
	return l
}

// release is Release.
func (p *plain) release(d deed) api.Errno {
	if d.n < 0 || d.n >= len(p.gates) || p.gates[d.n].From != d.tenant {
		return 160
	}
	if n := len(p.all); n > 0 && !stands(p.all[n-1].Stamp, d.at) {
		return 151
	}
	spent := 0
	for _, r := range p.all {
		if r.Gate == d.n {
			spent++
		}
	}
	if spent == p.gates[d.n].Room {
		return 150
	}
	p.all = append(p.all, rec(d.at, d.n, d.payload))
	p.came[p.gates[d.n].To] = append(p.came[p.gates[d.n].To], released(d.n, d.payload))
	return 0
}

// do does what the chapter's words say.
func (p *plain) do(d deed) (want told) {
	grants, releases := p.waiting(d.tenant)
	switch d.kind {
	case "Release":
		want.e = p.release(d)
	case "Room":
		want.ok = p.is(d.tenant) && grants < 32
	case "Grant":
		if !p.is(d.tenant) {
			return told{e: 5}
		}
		if grants >= 32 {
			return told{e: 161}
		}
		p.came[d.tenant] = append(p.came[d.tenant], given(d.n, d.handle))
	case "Poll":
		if !p.is(d.tenant) {
			return told{e: 5}
		}
		l := p.waits(d.tenant)
		if len(l) == 0 {
			return told{e: 162}
		}
		p.polled[d.tenant]++
		want.x = l[0]
	case "Waiting":
		want.a, want.b = grants, releases
	case "Released":
		want.rows = text(p.to(d.set))
	}
	return want
}

// made are gates that New must make.
func made(t testing.TB, c api.Conf) *gate.Gates {
	t.Helper()
	g, e := gate.New(c)
	if g == nil || e != api.OK {
		t.Fatalf("New(%+v) = %v, %d", c, g, e)
	}
	return g
}

// world is gates, and the plain ones beside them.
type world struct {
	made  *gate.Gates
	plain *plain
}

// newWorld is the gates of settings.
func newWorld(t testing.TB, c api.Conf) *world {
	t.Helper()
	return &world{made(t, c), newPlain(c)}
}

// do does a deed in both, and fails where they tell unlike things.
func (w *world) do(t testing.TB, d deed) told {
	t.Helper()
	got, want := do(w.made, d), w.plain.do(d)
	if got != want {
		t.Fatalf("gates %v, behind %v and %v: %+v: %+v, want %+v", w.plain.gates, w.plain.all, w.plain.came, d, got, want)
	}
	return got
}

// must fails where a deed's error is not the one that is wanted.
func (w *world) must(t testing.TB, d deed, want api.Errno) {
	t.Helper()
	if got := w.do(t, d); got.e != want {
		t.Fatalf("%+v: %d, want %d", d, got.e, want)
	}
}

// releases lets a tenant release.
func (w *world) releases(t testing.TB, tenant, gate int, payload uint64, s api.Stamp, want api.Errno) {
	t.Helper()
	w.must(t, deed{kind: "Release", tenant: tenant, n: gate, payload: payload, at: s}, want)
}

// grants lets somebody grant.
func (w *world) grants(t testing.TB, to, channel int, handle uint32, want api.Errno) {
	t.Helper()
	w.must(t, deed{kind: "Grant", tenant: to, n: channel, handle: handle}, want)
}

// polls fails where a tenant does not poll just these entries, and then nothing.
func (w *world) polls(t testing.TB, tenant int, want ...api.Entry) {
	t.Helper()
	for i, x := range want {
		if got := w.do(t, deed{kind: "Poll", tenant: tenant}); got != (told{x: x}) {
			t.Fatalf("Poll(%d) %d: %+v, want %+v", tenant, i, got, x)
		}
	}
	for range 2 {
		w.must(t, deed{kind: "Poll", tenant: tenant}, 162)
	}
}

// waits fails where not just so many grants and releases wait.
func (w *world) waits(t testing.TB, tenant, grants, releases int) {
	t.Helper()
	if got := w.do(t, deed{kind: "Waiting", tenant: tenant}); got.a != grants || got.b != releases {
		t.Fatalf("Waiting(%d) = %d, %d, want %d, %d", tenant, got.a, got.b, grants, releases)
	}
}

// right fails where an answer is not the plain gates', of whatever changes nothing.
func (w *world) right(t testing.TB) {
	t.Helper()
	for tenant := -2; tenant <= len(w.plain.came)+1; tenant++ {
		w.do(t, deed{kind: "Room", tenant: tenant})
		w.do(t, deed{kind: "Waiting", tenant: tenant})
		w.do(t, deed{kind: "Released", set: 1 << uint(tenant)})
	}
	for _, s := range someSets {
		w.do(t, deed{kind: "Released", set: s})
	}
}

// empty polls all inboxes till nothing waits.
func (w *world) empty(t testing.TB) {
	t.Helper()
	for tenant := range w.plain.came {
		w.polls(t, tenant, slices.Clone(w.plain.waits(tenant))...)
	}
	w.right(t)
}

// dice is a row of numbers that looks like chance, the same one each time.
type dice uint64

// to is a number from 0 to n-1.
func (d *dice) to(n int) int {
	*d += 0x9e3779b97f4a7c15
	z := uint64(*d)
	z = (z ^ z>>30) * 0xbf58476d1ce4e5b9
	z = (z ^ z>>27) * 0x94d049bb133111eb
	return int((z ^ z>>31) % uint64(n))
}

// settings are some, with any gates between tenants, few ones and many, some of them from a tenant to itself.
func (d *dice) settings() api.Conf {
	tenants := 1 + d.to(4)
	if d.to(4) == 0 {
		tenants = 16
	}
	c := settings(tenants)
	for range d.to(17) {
		g := api.Gate{From: d.to(tenants), To: d.to(tenants), Room: 1 + d.to(8)}
		if d.to(8) == 0 {
			g.Room = 1 + d.to(1024)
		}
		c.Gates = append(c.Gates, g)
	}
	return c
}

// deed is any one, most of them such as are done.
func (d *dice) deed(w *world) deed {
	tenants, gates := len(w.plain.came), len(w.plain.gates)
	x := deed{
		kind: names[d.to(len(names))], tenant: d.to(tenants), n: d.to(gates+2) - 1, payload: uint64(d.to(math.MaxInt)),
		at: d.stamp(w), handle: uint32(d.to(1 << 32)), set: uint64(d.to(1 << 17)),
	}
	if d.to(12) == 0 {
		x.tenant = d.to(tenants+2) - 1
	} else if x.kind == "Release" && x.n >= 0 && x.n < gates {
		x.tenant = w.plain.gates[x.n].From
	}
	return x
}

// stamp is one that comes next, or too late.
func (d *dice) stamp(w *world) api.Stamp {
	var s api.Stamp
	if n := len(w.plain.all); n > 0 {
		s = w.plain.all[n-1].Stamp
	}
	switch d.to(8) {
	case 0: // alike
		return s
	case 1:
		return at(s.Tick, s.Step-d.to(3))
	case 2:
		return at(s.Tick-d.to(2), d.to(16))
	case 3:
		return at(s.Tick, s.Step+1)
	}
	return at(s.Tick+1+d.to(3), d.to(16))
}
