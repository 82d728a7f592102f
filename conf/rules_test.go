package conf_test

import (
	"math"
	"reflect"
	"strings"
	"testing"

	"rampart/api"
	"rampart/conf"
)

// answers are those of every call.
type answers struct {
	number, lane, receiver, credits, bound int
	twoWay, sends, receives, same          bool
	low                                    uint64
	text                                   string
	errors                                 [4]api.Errno
}

// every makes every call that takes settings.
func every(c api.Conf, channel, lane, tenant int) answers {
	var a answers
	a.number, a.errors[0] = conf.Check(c)
	a.twoWay, a.errors[1] = conf.TwoWay(c, channel, lane)
	a.lane, a.sends = conf.Lane(c, channel, tenant)
	a.receiver, a.receives = conf.Receiver(c, channel, tenant)
	a.credits = conf.Credits(c, tenant)
	a.low, a.errors[2] = conf.Low(c, tenant)
	a.bound = conf.Bound(c)
	a.text, a.errors[3] = conf.Text(c)
	a.same = conf.Same(c, example())
	return a
}

// huge are lists far beyond what may be, of all kinds.
func huge() []api.Conf {
	n := 100000
	lanes, receivers := make([]api.Lane, n), make([]api.Receiver, n)
	for i := range n {
		lanes[i] = api.Lane{Tenant: i, Credit: i}
		receivers[i] = api.Receiver{Tenant: n - i}
	}
	l := []api.Conf{
		{Flows: make([]uint64, n)},
		{Tenants: make([]api.Tenant, n)},
		{Channels: make([]api.Channel, n)},
		{Gates: make([]api.Gate, n)},
		{Frame: make([]int, n)},
		{Channels: []api.Channel{{Lanes: lanes, Receivers: receivers}}},
	}
	for i := range 3 {
		c := wide()
		c.Channels[i].Lanes = lanes
		l = append(l, c)
		c = wide()
		c.Channels[i].Receivers = receivers
		l = append(l, c)
		c = wide()
		c.Channels[i].Lanes = make([]api.Lane, n)
		c.Channels[i].Receivers = make([]api.Receiver, n)
		l = append(l, c)
	}
	return l
}

// Rules 1 and 5: every call ends, none panics, and each answers the same again.
func TestHandMade(t *testing.T) {
	l := append(append(huge(), api.Conf{}, strange(), twice(), small(), limits()), someBad(t)[:300]...)
	for _, x := range allBroken() {
		c := wide()
		x.make(&c)
		l = append(l, c)
	}
	for _, c := range l {
		for _, n := range []int{math.MinInt, -1, 0, 1, 2, 16, 32, math.MaxInt} {
			x, y := every(c, n, n, n), every(clone(c), n, n, n)
			if x != y {
				t.Fatalf("of %+v and %d two answers: %+v and %+v", c, n, x, y)
			}
		}
	}
}

// Rule 1: settings of any numbers, in lists of lengths about what may be.
func TestHandMadeNumbers(t *testing.T) {
	d := dice(3)
	pick := func() int {
		return []int{math.MinInt, math.MaxInt, -1, 0, 0, 0, 1, 1, 1, 2, 3, 4, 16, 63, 64, 65}[d.below(16)]
	}
	for range 3000 {
		c := api.Conf{Budget: pick(), Requests: pick(), Pending: pick()}
		for range d.below(4) + d.below(2)*d.below(20) {
			c.Flows = append(c.Flows, []uint64{0, 1, 3, 7, 1 << 63, math.MaxUint64}[d.below(6)])
		}
		if d.below(2) == 0 {
			c.Flows = []uint64{3, 3}
		}
		for range d.below(4) + d.below(2)*d.below(20) {
			c.Tenants = append(c.Tenants, api.Tenant{Label: d.below(2) * pick(), Quota: 65})
		}
		for range d.below(4) {
			ch := api.Channel{Label: d.below(2) * pick()}
			for range d.below(4) {
				ch.Lanes = append(ch.Lanes, api.Lane{Tenant: pick(), Credit: pick()})
				ch.Receivers = append(ch.Receivers, api.Receiver{Tenant: pick()})
			}
			c.Channels = append(c.Channels, ch)
		}
		for range d.below(4) {
			c.Gates = append(c.Gates, api.Gate{From: pick(), To: pick(), Room: pick()})
			c.Frame = append(c.Frame, pick())
		}
		a := every(c, pick(), pick(), pick())
		if n, e := plainCheck(c); a.number != n || a.errors[0] != e {
			t.Fatalf("Check(%+v) = %d, %d; want %d, %d", c, a.number, a.errors[0], n, e)
		}
		if a.text != plainText(c) && a.errors[3] != api.ErrMany {
			t.Fatalf("Text(%+v) = %q, %d", c, a.text, a.errors[3])
		}
	}
}

// Rule 4: what is handed in is not changed.
func TestArgumentsStay(t *testing.T) {
	for _, c := range append(append(someGood(t)[:50], someBad(t)[:50]...), huge()...) {
		was := clone(c)
		for _, n := range []int{-1, 0, 1} {
			every(c, n, n, n)
			conf.Same(c, was)
			conf.Same(was, c)
		}
		if !reflect.DeepEqual(clone(c), was) {
			t.Errorf("%+v became %+v", was, c)
		}
	}
}

// Rule 4: nothing is kept of what is handed in, nor of what was answered.
func TestNothingIsKept(t *testing.T) {
	c := wide()
	before := every(c, 1, 1, 0)
	changes(c, func(d api.Conf) { every(d, 0, 0, 0) })
	if after := every(wide(), 1, 1, 0); after != before {
		t.Errorf("%+v became %+v", before, after)
	}
	text, _ := conf.Text(c)
	c.Channels[0].Label, c.Flows[0], c.Tenants[0].Label = 9, 9, 9
	if text != plainText(wide()) {
		t.Error("a text changed with its settings")
	}
}

// Rule 4: what is parsed shares no memory with another answer, and no two of its lists do.
func TestAnswersAreNew(t *testing.T) {
	s := plainText(limits())
	a, _, _ := conf.Parse(s)
	b, _, _ := conf.Parse(s)
	changes := func(c api.Conf) {
		for i := range c.Flows {
			c.Flows[i], c.Tenants[i], c.Gates[i] = 0, api.Tenant{}, api.Gate{}
		}
		for i := range c.Frame {
			c.Frame[i] = -1
		}
		for i := range c.Channels {
			clear(c.Channels[i].Lanes)
			clear(c.Channels[i].Receivers)
		}
		clear(c.Channels)
	}
	changes(a)
	if !conf.Same(b, limits()) {
		t.Error("two answers of Parse share memory")
	}
	want := clone(b)
	for i := range b.Channels { // who appends to one list, or changes it, changes no other one
		x, y := clone(want).Channels[i], &b.Channels[i]
		_ = append(y.Lanes, api.Lane{Tenant: -9}, api.Lane{Tenant: -9})
		_ = append(y.Receivers, api.Receiver{Tenant: -9}, api.Receiver{Tenant: -9})
		clear(y.Lanes)
		if !reflect.DeepEqual(y.Receivers, x.Receivers) {
			t.Errorf("lists of channel %d share memory", i)
		}
		copy(y.Lanes, x.Lanes)
	}
	_ = append(b.Flows, 9)
	_ = append(b.Frame, 9)
	_ = append(b.Tenants, api.Tenant{Label: 9})
	_ = append(b.Gates, api.Gate{Room: 9})
	_ = append(b.Channels, api.Channel{Label: 9})
	if !conf.Same(b, want) {
		t.Error("lists of one answer share memory")
	}
}

// Rule 4: nil and empty lists are the same, whoever is asked.
func TestNilIsEmpty(t *testing.T) {
	empty := func(c api.Conf) api.Conf {
		c = clone(c)
		if len(c.Flows) == 0 {
			c.Flows = []uint64{}
		}
		if len(c.Tenants) == 0 {
			c.Tenants = []api.Tenant{}
		}
		if len(c.Channels) == 0 {
			c.Channels = []api.Channel{}
		}
		for i, ch := range c.Channels {
			if len(ch.Lanes) == 0 {
				c.Channels[i].Lanes = []api.Lane{}
			}
			if len(ch.Receivers) == 0 {
				c.Channels[i].Receivers = []api.Receiver{}
			}
		}
		if len(c.Gates) == 0 {
			c.Gates = []api.Gate{}
		}
		if len(c.Frame) == 0 {
			c.Frame = []int{}
		}
		return c
	}
	bare := wide()
	bare.Channels, bare.Gates = []api.Channel{{}, {Label: 1, Receivers: []api.Receiver{{Tenant: 0}}}, {Lanes: []api.Lane{{Tenant: 0, Credit: 1}}}}, nil
	l := []api.Conf{{}, example(), bare, {Channels: []api.Channel{{}}}}
	for _, x := range allBroken() {
		c := wide()
		x.make(&c)
		l = append(l, c)
	}
	for _, c := range l {
		for _, n := range []int{-1, 0, 1, 2} {
			if x, y := every(clone(c), n, n, 0), every(empty(c), n, n, 0); x != y {
				t.Errorf("nil and empty lists in %+v: %+v and %+v", c, x, y)
			}
		}
	}
}

// Rule 2: beside an error stands nothing, but Check's and Parse's numbers.
func TestZeroBesideErrors(t *testing.T) {
	for _, c := range someBad(t) {
		if a := every(c, 0, 0, 0); a.errors[0] != api.OK && (a.twoWay || a.low != 0) {
			t.Fatalf("of %+v: %+v", c, a)
		}
	}
	for _, c := range huge() {
		if s, e := conf.Text(c); e != api.ErrMany || s != "" {
			t.Errorf("Text = %d bytes, %d", len(s), e)
		}
	}
	for _, s := range []string{strings.TrimSuffix(exampleText, "\n"), exampleText + "x", exampleText + strings.Repeat("\n", 65536)} {
		if c, _, e := conf.Parse(s); e == api.OK || !reflect.DeepEqual(c, api.Conf{}) {
			t.Errorf("Parse(%q..) = %+v, %d", s[:20], c, e)
		}
	}
}

// Rules 1 and 5, P4.4 and P4.5: any bytes are parsed as the plain reading of the chapter parses them.
func FuzzParse(f *testing.F) {
	for s := range someTexts() {
		f.Add(s)
		f.Add(s + s)
		f.Add(s[:len(s)/2])
	}
	for _, x := range wrongLines() {
		f.Add(x.s)
	}
	f.Add(plainText(limits()))
	f.Add(plainText(strange()))
	f.Add(strings.Repeat("x", 65537))
	f.Fuzz(func(t *testing.T, s string) {
		c, n, e := conf.Parse(s)
		if d, m, g := conf.Parse(s); m != n || g != e || !conf.Same(c, d) {
			t.Errorf("of %q two answers", s)
		}
		if len(s) > 65536 {
			if n != 0 || e != api.ErrLong || !conf.Same(c, api.Conf{}) {
				t.Errorf("Parse of %d bytes = %d, %d", len(s), n, e)
			}
			return
		}
		if m, ok := plainParse(s); !ok {
			if n != m || e != api.ErrText || !conf.Same(c, api.Conf{}) {
				t.Errorf("Parse(%q) = %+v, %d, %d; want %d", s, c, n, e, m)
			}
			return
		}
		if u, g := conf.Text(c); n != 0 || e != api.OK || u != s || g != api.OK {
			t.Errorf("Parse(%q) = %+v, %d, %d; its text %q, %d", s, c, n, e, u, g)
		}
		every(c, 0, 0, 0)
	})
}
