package conf_test

import (
	"math"
	"math/big"
	"testing"

	"rampart/api"
	"rampart/bits"
	"rampart/conf"
)

// places are numbers that are places of short lists, and numbers that are none.
func places() []int {
	return []int{math.MinInt, -17, -1, 0, 1, 2, 3, 4, 5, 6, 7, 8, 15, 16, 17, 31, 32, 63, 64, math.MaxInt}
}

// P4.2

// twice may not be: a tenant, and one that is none, stands more than once in a channel.
func twice() api.Conf {
	return api.Conf{Channels: []api.Channel{
		{},
		{
			Lanes:     []api.Lane{{Tenant: 5, Credit: 3}, {Tenant: -1, Credit: 64}, {Tenant: 5, Credit: 4}, {Tenant: 0, Credit: 65}, {Tenant: -1, Credit: 1}, {Tenant: 0, Credit: 0}},
			Receivers: []api.Receiver{{Tenant: -1}, {Tenant: 7}, {Tenant: 7}, {Tenant: 0}, {Tenant: math.MaxInt}},
		},
		{
			Lanes:     []api.Lane{{Tenant: math.MinInt, Credit: 2}, {Tenant: 5, Credit: math.MaxInt}, {Tenant: 5, Credit: math.MinInt}, {Tenant: 5, Credit: 64}},
			Receivers: []api.Receiver{{Tenant: 5}},
		},
	}}
}

func TestPlaces(t *testing.T) {
	for _, x := range []struct {
		channel, tenant int
		lane            int
		sends           bool
		receiver        int
		receives        bool
	}{
		{1, 5, 0, true, 0, false},
		{1, -1, 1, true, 0, true},
		{1, 0, 3, true, 3, true},
		{1, 7, 0, false, 1, true},
		{1, math.MaxInt, 0, false, 4, true},
		{2, 5, 1, true, 0, true},
		{2, math.MinInt, 0, true, 0, false},
		{2, 0, 0, false, 0, false},
		{0, 0, 0, false, 0, false},
		{-1, 5, 0, false, 0, false},
		{3, 5, 0, false, 0, false},
		{math.MaxInt, 5, 0, false, 0, false},
		{math.MinInt, 5, 0, false, 0, false},
	} {
		if i, ok := conf.Lane(twice(), x.channel, x.tenant); i != x.lane || ok != x.sends {
			t.Errorf("Lane(%d, %d) = %d, %t; want %d, %t", x.channel, x.tenant, i, ok, x.lane, x.sends)
		}
		if i, ok := conf.Receiver(twice(), x.channel, x.tenant); i != x.receiver || ok != x.receives {
			t.Errorf("Receiver(%d, %d) = %d, %t; want %d, %t", x.channel, x.tenant, i, ok, x.receiver, x.receives)
		}
	}
}

// plainPlaces goes through a channel from its end.
func plainPlaces(c api.Conf, channel, tenant int) (lane int, sends bool, receiver int, receives bool) {
	for n, ch := range c.Channels {
		if n != channel {
			continue
		}
		for i := len(ch.Lanes) - 1; i >= 0; i-- {
			if ch.Lanes[i].Tenant == tenant {
				lane, sends = i, true
			}
		}
		for i := len(ch.Receivers) - 1; i >= 0; i-- {
			if ch.Receivers[i].Tenant == tenant {
				receiver, receives = i, true
			}
		}
	}
	return
}

func TestPlacesPlain(t *testing.T) {
	lanes, receivers := 0, 0
	for _, c := range append(append(someGood(t), someBad(t)[:500]...), twice()) {
		for _, channel := range places() {
			for _, tenant := range places() {
				lane, sends, receiver, receives := plainPlaces(c, channel, tenant)
				if i, ok := conf.Lane(c, channel, tenant); i != lane || ok != sends {
					t.Fatalf("Lane(%+v, %d, %d) = %d, %t; want %d, %t", c, channel, tenant, i, ok, lane, sends)
				}
				if i, ok := conf.Receiver(c, channel, tenant); i != receiver || ok != receives {
					t.Fatalf("Receiver(%+v, %d, %d) = %d, %t; want %d, %t", c, channel, tenant, i, ok, receiver, receives)
				}
				if sends && lane > 0 {
					lanes++
				}
				if receives && receiver > 0 {
					receivers++
				}
			}
		}
	}
	if lanes < 300 || receivers < 300 {
		t.Errorf("%d lanes and %d receivers behind others are too few", lanes, receivers)
	}
}

func TestCredits(t *testing.T) {
	for tenant, want := range map[int]int{5: 71, -1: 65, 0: 0, math.MinInt: 2, math.MaxInt: 0, 7: 0} {
		if n := conf.Credits(twice(), tenant); n != want {
			t.Errorf("Credits(%d) = %d, want %d", tenant, n, want)
		}
	}
	for _, x := range []struct{ credit, want int }{{math.MinInt, 0}, {-1, 0}, {0, 0}, {1, 1}, {2, 2}, {63, 63}, {64, 64}, {65, 0}, {128, 0}, {math.MaxInt, 0}} {
		c := api.Conf{Channels: []api.Channel{{Lanes: []api.Lane{{Tenant: 1, Credit: x.credit}}}}}
		if n := conf.Credits(c, 1); n != x.want {
			t.Errorf("Credits of a lane of %d = %d, want %d", x.credit, n, x.want)
		}
	}
	if n := conf.Credits(limits(), 15); n != 256 {
		t.Errorf("Credits at the limits = %d", n)
	}
}

func TestCreditsPlain(t *testing.T) {
	for _, c := range append(someGood(t), someBad(t)...) {
		for _, tenant := range places() {
			sum := new(big.Int)
			for _, ch := range c.Channels {
				for _, l := range ch.Lanes {
					if l.Tenant == tenant && within(l.Credit, 1, 64) {
						sum.Add(sum, big.NewInt(int64(l.Credit)))
					}
				}
			}
			if n := conf.Credits(c, tenant); sum.Cmp(big.NewInt(int64(n))) != 0 {
				t.Fatalf("Credits(%+v, %d) = %d, want %d", c, tenant, n, sum)
			}
		}
	}
}

// Rule 7: more credit than settings that may be could have, and more than numbers of 16, 24 and 32 bits hold.
func TestCreditsSum(t *testing.T) {
	lanes := make([]api.Lane, 1<<16)
	for i := range lanes {
		lanes[i] = api.Lane{Tenant: 3, Credit: 64}
	}
	c := api.Conf{Channels: make([]api.Channel, 1<<11)}
	for i := range c.Channels { // one list stands in many channels
		c.Channels[i].Lanes = lanes[:1<<10]
	}
	if n := conf.Credits(c, 3); n != 1<<27 {
		t.Errorf("Credits = %d, want %d", n, 1<<27)
	}
	for i := range c.Channels {
		c.Channels[i].Lanes = lanes
	}
	c.Channels = c.Channels[:1<<10+1]
	if n := conf.Credits(c, 3); n != 1<<32+1<<22 {
		t.Errorf("Credits = %d, want %d", n, 1<<32+1<<22)
	}
}

// P4.3

func TestTwoWay(t *testing.T) {
	c := example()
	if is, e := conf.TwoWay(c, 0, 0); is || e != api.OK {
		t.Errorf("TwoWay(example) = %t, %d", is, e)
	}
	c.Flows = []uint64{3, 3}
	if is, e := conf.TwoWay(c, 0, 0); !is || e != api.OK {
		t.Errorf("TwoWay of labels that are equal = %t, %d", is, e)
	}
	c = example()
	c.Channels[0].Receivers = nil
	if is, e := conf.TwoWay(c, 0, 0); !is || e != api.OK {
		t.Errorf("TwoWay without receivers = %t, %d", is, e)
	}
	c = example()
	c.Channels[0].Lanes = append(c.Channels[0].Lanes, api.Lane{Tenant: 1, Credit: 1})
	c.Tenants[1].Quota = 1
	for lane, want := range []bool{false, true} {
		if is, e := conf.TwoWay(c, 0, lane); is != want || e != api.OK {
			t.Errorf("TwoWay of lane %d = %t, %d", lane, is, e)
		}
	}
}

// The wanted answers are worked out of the labels; channels and lanes that are none are asked for too.
func TestTwoWayPlain(t *testing.T) {
	ways := map[bool]int{}
	for _, c := range someGood(t) {
		f := faults{Conf: c}
		for _, channel := range places() {
			for _, lane := range places() {
				is, e := conf.TwoWay(c, channel, lane)
				if !within(channel, 0, len(c.Channels)-1) || !within(lane, 0, len(c.Channels[channel].Lanes)-1) {
					if is || e != api.ErrRange {
						t.Fatalf("TwoWay(%+v, %d, %d) = %t, %d", c, channel, lane, is, e)
					}
					continue
				}
				want := true
				for _, r := range c.Channels[channel].Receivers {
					want = want && f.to(f.label(r.Tenant), f.label(c.Channels[channel].Lanes[lane].Tenant))
				}
				if is != want || e != api.OK {
					t.Fatalf("TwoWay(%+v, %d, %d) = %t, %d; want %t", c, channel, lane, is, e, want)
				}
				ways[is]++
			}
		}
	}
	if ways[true] < 100 || ways[false] < 100 {
		t.Errorf("%d two-way lanes and %d one-way lanes are too few", ways[true], ways[false])
	}
}

func TestLow(t *testing.T) {
	for tenant, want := range []uint64{1, 3} {
		if s, e := conf.Low(example(), tenant); s != want || e != api.OK {
			t.Errorf("Low(example, %d) = %b, %d", tenant, s, e)
		}
	}
	for tenant := range 16 {
		if s, e := conf.Low(limits(), tenant); s != 1<<16-1 || e != api.OK {
			t.Errorf("Low(limits, %d) = %b, %d", tenant, s, e)
		}
	}
	for _, c := range someGood(t) {
		f := faults{Conf: c}
		for _, tenant := range places() {
			s, e := conf.Low(c, tenant)
			if !within(tenant, 0, len(c.Tenants)-1) {
				if s != 0 || e != api.ErrRange {
					t.Fatalf("Low(%+v, %d) = %b, %d", c, tenant, s, e)
				}
				continue
			}
			want := uint64(0)
			for i := range c.Tenants {
				if f.to(f.label(i), f.label(tenant)) {
					want += 1 << i
				}
			}
			if s != want || e != api.OK {
				t.Fatalf("Low(%+v, %d) = %b, %d; want %b", c, tenant, s, e, want)
			}
		}
	}
}

// Rule 2: Check's error stands ahead of ErrRange, and beside an error stands nothing.
func TestAskErrors(t *testing.T) {
	wrong := 0
	for _, c := range someBad(t) {
		_, want := plainCheck(c)
		if want == api.OK {
			continue
		}
		wrong++
		for _, n := range []int{-1, 0, 1, 99} {
			if is, e := conf.TwoWay(c, n, n); is || e != want {
				t.Fatalf("TwoWay(%+v, %d, %d) = %t, %d; want %d", c, n, n, is, e, want)
			}
			if s, e := conf.Low(c, n); s != 0 || e != want {
				t.Fatalf("Low(%+v, %d) = %b, %d; want %d", c, n, s, e, want)
			}
		}
	}
	if wrong < 2000 {
		t.Errorf("%d settings that may not be are too few", wrong)
	}
	for _, x := range allBroken() {
		c := wide()
		x.make(&c)
		if is, e := conf.TwoWay(c, 0, 0); is || e != x.e {
			t.Errorf("%s: TwoWay = %t, %d; want %d", x.name, is, e, x.e)
		}
		if s, e := conf.Low(c, 0); s != 0 || e != x.e {
			t.Errorf("%s: Low = %b, %d; want %d", x.name, s, e, x.e)
		}
	}
}

func TestBound(t *testing.T) {
	for pending, want := range map[int]int{1: 6, 2: 12, 3: 18, 4: 24, 0: 0, -1: 0, 5: 0, 6: 0, math.MinInt: 0, math.MaxInt: 0} {
		if n := conf.Bound(api.Conf{Pending: pending}); n != want { // of any settings
			t.Errorf("Bound of %d = %d, want %d", pending, n, want)
		}
		c := wide()
		c.Pending = pending
		if n := conf.Bound(c); n != want {
			t.Errorf("Bound of %d in settings = %d, want %d", pending, n, want)
		}
	}
}

// P4.6

// allGood are the settings that Check takes, also those that are spoiled and yet may be.
func allGood(t *testing.T) []api.Conf {
	t.Helper()
	l := someGood(t)
	for _, c := range someBad(t) {
		if _, e := conf.Check(c); e == api.OK {
			l = append(l, c)
		}
	}
	return l
}

func TestEnough(t *testing.T) {
	senders, receivers := 0, 0
	for _, c := range allGood(t) {
		for i, x := range c.Tenants {
			if conf.Credits(c, i) > x.Quota {
				t.Errorf("%+v: tenant %d has credit for %d messages", c, i, conf.Credits(c, i))
			}
		}
		for n, ch := range c.Channels {
			for _, r := range ch.Receivers {
				low, e := conf.Low(c, r.Tenant)
				if e != api.OK {
					t.Fatalf("Low(%+v, %d): %d", c, r.Tenant, e)
				}
				for _, l := range ch.Lanes {
					senders++
					if !bits.Has(low, l.Tenant) {
						t.Errorf("%+v: of channel %d, %d does not flow to %d", c, n, l.Tenant, r.Tenant)
					}
				}
				for _, o := range ch.Receivers {
					receivers++
					if !bits.Has(low, o.Tenant) {
						t.Errorf("%+v: of channel %d, %d does not flow to %d", c, n, o.Tenant, r.Tenant)
					}
				}
			}
		}
	}
	if senders < 500 || receivers < 500 {
		t.Errorf("%d senders and %d receivers are too few", senders, receivers)
	}
}

// P4.7

func TestOneWayOrTheOther(t *testing.T) {
	ways := map[bool]int{}
	for _, c := range allGood(t) {
		f := faults{Conf: c}
		for n, ch := range c.Channels {
			for i, l := range ch.Lanes {
				is, e := conf.TwoWay(c, n, i)
				if e != api.OK {
					t.Fatalf("TwoWay(%+v, %d, %d): %d", c, n, i, e)
				}
				for _, r := range ch.Receivers {
					if f.to(f.label(r.Tenant), f.label(l.Tenant)) != is {
						t.Errorf("%+v: lane %d of channel %d: two-way %t, receiver %d", c, i, n, is, r.Tenant)
					}
				}
				if len(ch.Receivers) > 1 {
					ways[is]++
				}
			}
		}
	}
	if ways[true] < 100 || ways[false] < 100 {
		t.Errorf("%d two-way lanes and %d one-way lanes are too few", ways[true], ways[false])
	}
}
