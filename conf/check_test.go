package conf_test

import (
	"math"
	"testing"

	"rampart/api"
	"rampart/conf"
)

// P4.1

// broken is a fault put into settings, and what Check tells of it.
type broken struct {
	name string
	make func(*api.Conf)
	n    int
	e    api.Errno
}

// filled is a list with zeros behind it, till there are n.
func filled[T any](l []T, n int) []T { return append(l, make([]T, n-len(l))...) }

// allBroken are faults of wide, in the order in which the chapter asks; none hides one ahead of it.
func allBroken() []broken {
	return []broken{
		{"17 labels", func(c *api.Conf) { c.Flows = make([]uint64, 17) }, 0, api.ErrMany},
		{"no labels", func(c *api.Conf) { c.Flows = nil }, 0, api.ErrArg},
		{"a flow to no label", func(c *api.Conf) { c.Flows[2] |= 8 }, 0, api.ErrBit},
		{"no policy", func(c *api.Conf) { c.Flows[1] = 4 }, 0, api.ErrPolicy},
		{"17 tenants", func(c *api.Conf) { c.Tenants = filled(c.Tenants, 17) }, 0, api.ErrMany},
		{"no tenants", func(c *api.Conf) { c.Tenants = nil }, 0, api.ErrTenant},
		{"label of tenant 1", func(c *api.Conf) { c.Tenants[1].Label = 3 }, 1, api.ErrTenant},
		{"quota of tenant 2", func(c *api.Conf) { c.Tenants[2].Quota = 257 }, 2, api.ErrTenant},
		{"label of tenant 3", func(c *api.Conf) { c.Tenants[3].Label = -1 }, 3, api.ErrTenant},
		{"33 channels", func(c *api.Conf) { c.Channels = filled(c.Channels, 33) }, 0, api.ErrMany},
		{"label of channel 0", func(c *api.Conf) { c.Channels[0].Label = 3 }, 0, api.ErrLabel},
		{"lane 0 of channel 0", func(c *api.Conf) { c.Channels[0].Lanes[0].Tenant = 4 }, 0, api.ErrLane},
		{"lane 1 of channel 0", func(c *api.Conf) { c.Channels[0].Lanes[1].Credit = 0 }, 0, api.ErrLane},
		{"receiver 1 of channel 0", func(c *api.Conf) { c.Channels[0].Receivers[1].Tenant = 0 }, 0, api.ErrReceiver},
		{"label of channel 1", func(c *api.Conf) { c.Channels[1].Label = -1 }, 1, api.ErrLabel},
		{"lane 1 of channel 1", func(c *api.Conf) { c.Channels[1].Lanes[1].Tenant = 1 }, 1, api.ErrLane},
		{"receiver 0 of channel 1", func(c *api.Conf) { c.Channels[1].Receivers[0].Tenant = -1 }, 1, api.ErrReceiver},
		{"label of channel 2", func(c *api.Conf) { c.Channels[2].Label = 16 }, 2, api.ErrLabel},
		{"quota spent, of tenant 0", func(c *api.Conf) { c.Tenants[0].Quota = 3 }, 0, api.ErrQuota},
		{"quota spent, of tenant 2", func(c *api.Conf) { c.Tenants[2].Quota = 63 }, 2, api.ErrQuota},
		{"17 gates", func(c *api.Conf) { c.Gates = filled(c.Gates, 17) }, 0, api.ErrMany},
		{"gate 0", func(c *api.Conf) { c.Gates[0].Room = 0 }, 0, api.ErrGate},
		{"gate 1", func(c *api.Conf) { c.Gates[1].To = 4 }, 1, api.ErrGate},
		{"65 ticks", func(c *api.Conf) { c.Frame = filled(c.Frame, 65) }, 0, api.ErrMany},
		{"no ticks", func(c *api.Conf) { c.Frame = nil }, 0, api.ErrFrame},
		{"tick 1", func(c *api.Conf) { c.Frame[1] = 4 }, 1, api.ErrFrame},
		{"tick 4", func(c *api.Conf) { c.Frame[4] = -1 }, 4, api.ErrFrame},
		{"no tick of tenant 1", func(c *api.Conf) { c.Frame[2] = 0 }, 1, api.ErrFrame},
		{"no tick of tenant 3", func(c *api.Conf) { c.Frame[0] = 0 }, 3, api.ErrFrame},
		{"budget", func(c *api.Conf) { c.Budget = 17 }, 0, api.ErrBudget},
		{"requests", func(c *api.Conf) { c.Requests = 0 }, 0, api.ErrBudget},
		{"pending", func(c *api.Conf) { c.Pending = 5 }, 0, api.ErrBudget},
	}
}

func TestCheckOne(t *testing.T) {
	for _, c := range []api.Conf{example(), wide(), limits()} {
		if n, e := conf.Check(c); n != 0 || e != api.OK {
			t.Errorf("Check(%+v) = %d, %d", c, n, e)
		}
	}
	for _, x := range allBroken() {
		c := wide()
		x.make(&c)
		if n, e := conf.Check(c); n != x.n || e != x.e {
			t.Errorf("%s: Check = %d, %d; want %d, %d", x.name, n, e, x.n, x.e)
		}
	}
}

// Two faults at once: the earlier one is told, whichever it is.
func TestCheckTwo(t *testing.T) {
	l := allBroken()
	for i, x := range l {
		for _, y := range l[i+1:] {
			c := wide()
			y.make(&c)
			x.make(&c)
			if n, e := conf.Check(c); n != x.n || e != x.e {
				t.Errorf("%s, and %s: Check = %d, %d; want %d, %d", x.name, y.name, n, e, x.n, x.e)
			}
		}
	}
}

func TestCheckNumbers(t *testing.T) {
	least, last := math.MinInt, math.MaxInt
	for _, x := range []struct {
		name string
		set  func(*api.Conf, int)
		good []int
		bad  []int
		n    int
		e    api.Errno
	}{
		{"a tenant's label", func(c *api.Conf, n int) { c.Tenants[3].Label = n }, []int{0, 1, 2}, []int{-1, 3, 16, 64, least, last}, 3, api.ErrTenant},
		{"a quota", func(c *api.Conf, n int) { c.Tenants[3].Quota = n }, []int{0, 1, 255, 256}, []int{-1, 257, -256, least, last}, 3, api.ErrTenant},
		{"a channel's label", func(c *api.Conf, n int) { c.Channels[2].Label = n }, []int{0, 1, 2}, []int{-1, 3, 16, 64, least, last}, 2, api.ErrLabel},
		{"a lane's tenant", func(c *api.Conf, n int) { c.Channels[1].Lanes[1].Tenant = n }, []int{0, 2}, []int{-1, 1, 4, 64, least, last}, 1, api.ErrLane},
		{"a credit", func(c *api.Conf, n int) { c.Channels[1].Lanes[0].Credit = n }, []int{1, 2, 63, 64}, []int{0, -1, 65, 257, least, last}, 1, api.ErrLane},
		{"a receiver's tenant", func(c *api.Conf, n int) { c.Channels[1].Receivers[1].Tenant = n }, []int{0, 2, 3}, []int{-1, 1, 4, 64, least, last}, 1, api.ErrReceiver},
		{"a gate's From", func(c *api.Conf, n int) { c.Gates[1].From = n }, []int{0, 1, 2, 3}, []int{-1, 4, 16, least, last}, 1, api.ErrGate},
		{"a gate's To", func(c *api.Conf, n int) { c.Gates[1].To = n }, []int{0, 1, 2, 3}, []int{-1, 4, 16, least, last}, 1, api.ErrGate},
		{"a room", func(c *api.Conf, n int) { c.Gates[1].Room = n }, []int{1, 2, 1023, 1024}, []int{0, -1, 1025, least, last}, 1, api.ErrGate},
		{"a tick", func(c *api.Conf, n int) { c.Frame[4] = n }, []int{0, 1, 2, 3}, []int{-1, 4, 16, least, last}, 4, api.ErrFrame},
		{"the budget", func(c *api.Conf, n int) { c.Budget = n }, []int{1, 2, 15, 16}, []int{0, -1, 17, least, last}, 0, api.ErrBudget},
		{"the requests", func(c *api.Conf, n int) { c.Requests = n }, []int{1, 2, 3, 4}, []int{0, -1, 5, least, last}, 0, api.ErrBudget},
		{"the pending", func(c *api.Conf, n int) { c.Pending = n }, []int{1, 2, 3, 4}, []int{0, -1, 5, least, last}, 0, api.ErrBudget},
	} {
		for _, v := range x.good {
			c := wide()
			x.set(&c, v)
			if n, e := conf.Check(c); n != 0 || e != api.OK {
				t.Errorf("%s of %d: Check = %d, %d", x.name, v, n, e)
			}
		}
		for _, v := range x.bad {
			c := wide()
			x.set(&c, v)
			if n, e := conf.Check(c); n != x.n || e != x.e {
				t.Errorf("%s of %d: Check = %d, %d; want %d, %d", x.name, v, n, e, x.n, x.e)
			}
		}
	}
}

// Settings at all limits may be; one more of anything may not.
func TestCheckLimits(t *testing.T) {
	for _, x := range []broken{
		{"labels", func(c *api.Conf) { c.Flows = append(c.Flows, 1<<16) }, 0, api.ErrMany},
		{"tenants", func(c *api.Conf) { c.Tenants = append(c.Tenants, api.Tenant{}) }, 0, api.ErrMany},
		{"channels", func(c *api.Conf) { c.Channels = append(c.Channels, api.Channel{}) }, 0, api.ErrMany},
		{"lanes", func(c *api.Conf) {
			c.Channels[31].Lanes = append(c.Channels[31].Lanes, api.Lane{Tenant: 15, Credit: 1})
		}, 31, api.ErrLane},
		{"receivers", func(c *api.Conf) {
			c.Channels[31].Receivers = append(c.Channels[31].Receivers, api.Receiver{Tenant: 0})
		}, 31, api.ErrReceiver},
		{"credit", func(c *api.Conf) { c.Channels[7].Lanes[15].Credit++ }, 15, api.ErrQuota},
		{"gates", func(c *api.Conf) { c.Gates = append(c.Gates, c.Gates[0]) }, 0, api.ErrMany},
		{"ticks", func(c *api.Conf) { c.Frame = append(c.Frame, 0) }, 0, api.ErrMany},
	} {
		c := limits()
		x.make(&c)
		if n, e := conf.Check(c); n != x.n || e != x.e {
			t.Errorf("one more of the %s: Check = %d, %d; want %d, %d", x.name, n, e, x.n, x.e)
		}
	}
}

// What may not flow: labels 0, 1 and 2 rise, 3 is equal to 1, 4 stands apart; each has a tenant.
func TestCheckFlows(t *testing.T) {
	base := api.Conf{
		Flows:   []uint64{0b01111, 0b01110, 0b00100, 0b01110, 0b10000},
		Tenants: []api.Tenant{{Label: 0, Quota: 9}, {Label: 1, Quota: 9}, {Label: 2, Quota: 9}, {Label: 3, Quota: 9}, {Label: 4, Quota: 9}},
		Frame:   []int{0, 1, 2, 3, 4}, Budget: 1, Requests: 1, Pending: 1,
	}
	for _, x := range []struct {
		label     int
		lanes     []int
		receivers []int
		e         api.Errno
	}{
		{0, []int{0}, []int{0}, api.OK},
		{1, []int{0, 1, 3}, []int{2}, api.OK},
		{1, []int{3, 1, 0}, []int{1, 3}, api.OK},
		{1, []int{}, []int{3, 1}, api.OK},
		{2, []int{2, 1, 0, 3}, []int{2}, api.OK},
		{4, []int{4}, []int{4}, api.OK},
		{0, nil, nil, api.OK},
		{0, nil, []int{2}, api.OK},
		{2, []int{0}, nil, api.OK},
		{0, []int{1}, nil, api.ErrFlow},       // 1 does not flow to 0
		{1, []int{0, 2}, nil, api.ErrFlow},    // nor 2 to 1
		{2, []int{0, 4}, nil, api.ErrFlow},    // nor 4 to anything
		{2, nil, []int{1}, api.ErrFlow},       // nor the channel's 2 to 1
		{1, nil, []int{0}, api.ErrFlow},       // nor its 1 to 0
		{1, nil, []int{4}, api.ErrFlow},       // nor to 4
		{0, nil, []int{0, 1}, api.ErrFlow},    // a receiver does not flow to one ahead of it
		{0, nil, []int{1, 0}, api.ErrFlow},    // nor one ahead of it to it
		{0, nil, []int{1, 3, 2}, api.ErrFlow}, // nor, at the third one, the second one's to it
		{0, nil, []int{3, 1, 0}, api.ErrFlow},
		{0, []int{1, 9}, nil, api.ErrFlow},          // lane by lane: the first one's flow stands ahead of the second one's tenant
		{0, []int{9, 1}, nil, api.ErrLane},          // and the other way round
		{0, []int{1, 1}, nil, api.ErrFlow},          // and ahead of its being there twice
		{0, []int{0, 0}, []int{9}, api.ErrLane},     // lanes stand ahead of receivers
		{0, []int{1}, []int{9}, api.ErrFlow},        // with their flows
		{1, nil, []int{0, 9}, api.ErrFlow},          // receiver by receiver
		{1, nil, []int{9, 0}, api.ErrReceiver},      // and the other way round
		{1, nil, []int{1, 1, 0}, api.ErrReceiver},   // twice
		{1, nil, []int{1, 3, 1}, api.ErrReceiver},   // twice, not beside one another
		{1, []int{0, 1, 0}, []int{1}, api.ErrLane},  // likewise
		{1, []int{0, -1, 0}, []int{1}, api.ErrLane}, // none
		{5, []int{1, 9}, []int{9}, api.ErrLabel},    // the label stands ahead of all
	} {
		c := clone(base)
		ch := api.Channel{Label: x.label}
		for _, i := range x.lanes {
			ch.Lanes = append(ch.Lanes, api.Lane{Tenant: i, Credit: 1})
		}
		for _, i := range x.receivers {
			ch.Receivers = append(ch.Receivers, api.Receiver{Tenant: i})
		}
		c.Channels = []api.Channel{{}, {Label: 4}, ch}
		want := 2
		if x.e == api.OK {
			want = 0
		}
		if n, e := conf.Check(c); n != want || e != x.e {
			t.Errorf("label %d, lanes %v, receivers %v: Check = %d, %d; want %d, %d", x.label, x.lanes, x.receivers, n, e, want, x.e)
		}
	}
}

// A lane's tenant or credit that may not be stands ahead of its flow; so does a receiver's tenant.
func TestCheckWithinOne(t *testing.T) {
	for _, credit := range []int{0, 65, -1} {
		c := example()
		c.Channels[0].Label = 0
		c.Channels[0].Lanes[0] = api.Lane{Tenant: 1, Credit: credit}
		if n, e := conf.Check(c); n != 0 || e != api.ErrLane {
			t.Errorf("credit %d: Check = %d, %d", credit, n, e)
		}
	}
}

// Rule 7: credits are summed up without a bound.
func TestCheckSums(t *testing.T) {
	for _, x := range []struct {
		credits []int
		quota   int
		e       api.Errno
	}{
		{nil, 0, api.OK},
		{[]int{1}, 0, api.ErrQuota},
		{[]int{64}, 64, api.OK},
		{[]int{64}, 63, api.ErrQuota},
		{[]int{64, 64, 64, 64}, 256, api.OK},
		{[]int{64, 64, 64, 64, 1}, 256, api.ErrQuota},
		{[]int{64, 64, 64, 64}, 255, api.ErrQuota},
		{[]int{64, 64, 64, 64, 64, 64, 64, 64}, 0, api.ErrQuota}, // twice 256
	} {
		c := example()
		c.Channels = nil
		c.Tenants[0].Quota = 1
		c.Tenants[1].Quota = x.quota
		for _, n := range x.credits {
			c.Channels = append(c.Channels, api.Channel{Label: 1, Lanes: []api.Lane{{Tenant: 1, Credit: n}}})
		}
		want := 0
		if x.e != api.OK {
			want = 1
		}
		if n, e := conf.Check(c); n != want || e != x.e {
			t.Errorf("credits %v, quota %d: Check = %d, %d; want %d", x.credits, x.quota, n, e, x.e)
		}
	}
}

func TestCheckPlain(t *testing.T) {
	told := map[api.Errno]int{}
	for _, c := range someBad(t) {
		n, e := conf.Check(c)
		if m, f := plainCheck(c); n != m || e != f {
			t.Fatalf("Check(%+v) = %d, %d; want %d, %d", c, n, e, m, f)
		}
		told[e]++
	}
	for _, c := range someGood(t) {
		if n, e := plainCheck(c); n != 0 || e != api.OK {
			t.Fatalf("plainly %+v may not be: %d, %d", c, n, e)
		}
	}
	for _, e := range []api.Errno{api.OK, api.ErrArg, api.ErrBit, api.ErrPolicy, api.ErrTenant, api.ErrLabel, api.ErrLane, api.ErrReceiver, api.ErrFlow, api.ErrQuota, api.ErrGate, api.ErrFrame, api.ErrBudget} {
		if told[e] < 30 {
			t.Errorf("%d of error %d are too few", told[e], e)
		}
	}
}
