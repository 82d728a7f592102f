package conf_test

import (
	"fmt"
	"math"
	"math/big"
	"regexp"
	"strings"
	"testing"

	"rampart/api"
	"rampart/bits"
	"rampart/conf"
)

// example is the chapter's.
func example() api.Conf {
	return api.Conf{
		Flows:    []uint64{3, 2},
		Tenants:  []api.Tenant{{Label: 0, Quota: 4}, {Label: 1}},
		Channels: []api.Channel{{Label: 1, Lanes: []api.Lane{{Tenant: 0, Credit: 4, Opens: true}}, Receivers: []api.Receiver{{Tenant: 1, Opens: true}}}},
		Frame:    []int{0, 1},
		Budget:   3,
		Requests: 2,
		Pending:  4,
	}
}

// exampleText is the chapter's.
const exampleText = "flows 0 1\nflows 1\ntenant 0 4\ntenant 1 0\nchannel 1\nlane 0 4 opens\nreceiver 1 opens\nframe 0 1\nbudget 3 2 4\n"

// wide has several of everything, and no label that may not flow to another one, so that a change brings no fault but its own.
func wide() api.Conf {
	return api.Conf{
		Flows:   []uint64{7, 7, 7},
		Tenants: []api.Tenant{{Label: 0, Quota: 256}, {Label: 1, Quota: 256}, {Label: 2, Quota: 256}, {Label: 2}},
		Channels: []api.Channel{
			{Label: 0, Lanes: []api.Lane{{Tenant: 0, Credit: 1}, {Tenant: 2, Credit: 64, Opens: true}}, Receivers: []api.Receiver{{Tenant: 0}, {Tenant: 3, Opens: true}}},
			{Label: 2, Lanes: []api.Lane{{Tenant: 1, Credit: 2}, {Tenant: 0, Credit: 3}}, Receivers: []api.Receiver{{Tenant: 1, Opens: true}, {Tenant: 2}}},
			{Label: 1},
		},
		Gates:    []api.Gate{{From: 0, To: 1, Room: 1}, {From: 2, To: 2, Room: 1024}},
		Frame:    []int{3, 0, 1, 2, 0},
		Budget:   3,
		Requests: 2,
		Pending:  4,
	}
}

// limits has as much of everything as may be.
func limits() api.Conf {
	c := api.Conf{Budget: 16, Requests: 4, Pending: 4}
	for i := range 16 {
		c.Flows = append(c.Flows, 1<<16-1)
		c.Tenants = append(c.Tenants, api.Tenant{Label: 15 - i, Quota: 256})
		c.Gates = append(c.Gates, api.Gate{From: i, To: 15 - i, Room: 1024})
	}
	for i := range 32 {
		ch := api.Channel{Label: i % 16}
		for t := range 16 {
			ch.Lanes = append(ch.Lanes, api.Lane{Tenant: t, Credit: 8, Opens: true})
			ch.Receivers = append(ch.Receivers, api.Receiver{Tenant: 15 - t, Opens: true})
		}
		c.Channels = append(c.Channels, ch)
	}
	for i := range 64 {
		c.Frame = append(c.Frame, i%16)
	}
	return c
}

// strange may not be, but has a text: as much of everything as a text may have, each number as long as one may be.
func strange() api.Conf {
	c := limits()
	for i := range c.Flows {
		c.Flows[i] = math.MaxUint64
		c.Tenants[i] = api.Tenant{Label: math.MinInt, Quota: math.MinInt}
		c.Gates[i] = api.Gate{From: math.MinInt, To: math.MinInt, Room: math.MinInt}
	}
	for i := range c.Channels {
		c.Channels[i].Label = math.MinInt
		for j := range 16 {
			c.Channels[i].Lanes[j] = api.Lane{Tenant: math.MinInt, Credit: math.MinInt, Opens: true}
			c.Channels[i].Receivers[j] = api.Receiver{Tenant: math.MinInt, Opens: true}
		}
	}
	for i := range c.Frame {
		c.Frame[i] = math.MinInt
	}
	c.Budget, c.Requests, c.Pending = math.MinInt, math.MinInt, math.MinInt
	return c
}

// fault is one of the seven checks that holds: the number of the thing, and the error.
type fault struct {
	n int
	e api.Errno
}

// faults collects all faults of settings, also those behind the first one.
type faults struct {
	api.Conf
	l []fault
}

func (f *faults) add(is bool, n int, e api.Errno) {
	if is {
		f.l = append(f.l, fault{n, e})
	}
}

// within tells whether a number is from the least one to the last one.
func within(n, least, last int) bool { return least <= n && n <= last }

// to asks of any numbers, of those that are no labels too.
func (f *faults) to(a, b int) bool {
	return within(a, 0, len(f.Flows)-1) && within(b, 0, len(f.Flows)-1) && f.Flows[a]&(1<<b) != 0
}

// label is a tenant's, or none.
func (f *faults) label(tenant int) int {
	if !within(tenant, 0, len(f.Tenants)-1) {
		return -1
	}
	return f.Tenants[tenant].Label
}

func (f *faults) ofFlows() {
	n := len(f.Flows)
	f.add(n > 16, 0, 3)
	f.add(n == 0, 0, 1)
	for a := range min(n, 16) {
		f.add(n < 64 && f.Flows[a]>>n != 0, 0, 10)
	}
	for a := range min(n, 16) {
		f.add(!f.to(a, a), 0, 20)
		for b := range min(n, 16) {
			for c := range min(n, 16) {
				f.add(f.to(a, b) && f.to(b, c) && !f.to(a, c), 0, 20)
			}
		}
	}
}

func (f *faults) ofTenants() {
	f.add(len(f.Tenants) > 16, 0, 3)
	f.add(len(f.Tenants) == 0, 0, 40)
	for i, t := range f.Tenants {
		f.add(!within(t.Label, 0, len(f.Flows)-1), i, 40)
		f.add(!within(t.Quota, 0, 256), i, 40)
	}
}

func (f *faults) ofChannels() {
	last := len(f.Tenants) - 1
	f.add(len(f.Channels) > 32, 0, 3)
	for n, ch := range f.Channels {
		f.add(!within(ch.Label, 0, len(f.Flows)-1), n, 41)
		for i, x := range ch.Lanes {
			f.add(!within(x.Tenant, 0, last), n, 42)
			for _, y := range ch.Lanes[:i] {
				f.add(x.Tenant == y.Tenant, n, 42)
			}
			f.add(!within(x.Credit, 1, 64), n, 42)
			f.add(!f.to(f.label(x.Tenant), ch.Label), n, 44)
		}
		for i, x := range ch.Receivers {
			f.add(!within(x.Tenant, 0, last), n, 43)
			for _, y := range ch.Receivers[:i] {
				f.add(x.Tenant == y.Tenant, n, 43)
			}
			f.add(!f.to(ch.Label, f.label(x.Tenant)), n, 44)
			for _, y := range ch.Receivers[:i] {
				f.add(!f.to(f.label(x.Tenant), f.label(y.Tenant)), n, 44)
				f.add(!f.to(f.label(y.Tenant), f.label(x.Tenant)), n, 44)
			}
		}
	}
}

func (f *faults) ofQuotas() {
	for i, t := range f.Tenants {
		sum := new(big.Int)
		for _, ch := range f.Channels {
			for _, l := range ch.Lanes {
				if l.Tenant == i {
					sum.Add(sum, big.NewInt(int64(l.Credit)))
				}
			}
		}
		f.add(sum.Cmp(big.NewInt(int64(t.Quota))) > 0, i, 45)
	}
}

func (f *faults) ofGates() {
	f.add(len(f.Gates) > 16, 0, 3)
	for i, g := range f.Gates {
		f.add(!within(g.From, 0, len(f.Tenants)-1), i, 46)
		f.add(!within(g.To, 0, len(f.Tenants)-1), i, 46)
		f.add(!within(g.Room, 1, 1024), i, 46)
	}
}

func (f *faults) ofFrame() {
	f.add(len(f.Frame) > 64, 0, 3)
	f.add(len(f.Frame) == 0, 0, 47)
	ticks := map[int]int{}
	for i, t := range f.Frame {
		ticks[t]++
		f.add(!within(t, 0, len(f.Tenants)-1), i, 47)
	}
	for i := range f.Tenants {
		f.add(ticks[i] == 0, i, 47)
	}
}

// plainCheck is the first of all faults.
func plainCheck(c api.Conf) (int, api.Errno) {
	f := faults{Conf: c}
	f.ofFlows()
	f.ofTenants()
	f.ofChannels()
	f.ofQuotas()
	f.ofGates()
	f.ofFrame()
	f.add(!within(c.Budget, 1, 16) || !within(c.Requests, 1, 4) || !within(c.Pending, 1, 4), 0, 48)
	if len(f.l) == 0 {
		return 0, 0
	}
	return f.l[0].n, f.l[0].e
}

// plainText prints settings.
func plainText(c api.Conf) string {
	var b strings.Builder
	opens := map[bool]string{true: " opens"}
	for _, row := range c.Flows {
		b.WriteString("flows")
		for i := range 64 {
			if row>>i&1 == 1 {
				fmt.Fprintf(&b, " %d", i)
			}
		}
		b.WriteString("\n")
	}
	for _, t := range c.Tenants {
		fmt.Fprintf(&b, "tenant %d %d\n", t.Label, t.Quota)
	}
	for _, ch := range c.Channels {
		fmt.Fprintf(&b, "channel %d\n", ch.Label)
		for _, l := range ch.Lanes {
			fmt.Fprintf(&b, "lane %d %d%s\n", l.Tenant, l.Credit, opens[l.Opens])
		}
		for _, r := range ch.Receivers {
			fmt.Fprintf(&b, "receiver %d%s\n", r.Tenant, opens[r.Opens])
		}
	}
	for _, g := range c.Gates {
		fmt.Fprintf(&b, "gate %d %d %d\n", g.From, g.To, g.Room)
	}
	b.WriteString("frame")
	for _, t := range c.Frame {
		fmt.Fprintf(&b, " %d", t)
	}
	fmt.Fprintf(&b, "\nbudget %d %d %d\n", c.Budget, c.Requests, c.Pending)
	return b.String()
}

// The kinds of lines, each by a pattern, and by a letter of the row of lines.
var lineKinds = []struct {
	letter  string
	pattern *regexp.Regexp
}{
	{"f", regexp.MustCompile(`^flows( (0|-?[1-9][0-9]*))*$`)},
	{"t", regexp.MustCompile(`^tenant( (0|-?[1-9][0-9]*)){2}$`)},
	{"c", regexp.MustCompile(`^channel (0|-?[1-9][0-9]*)$`)},
	{"l", regexp.MustCompile(`^lane( (0|-?[1-9][0-9]*)){2}( opens)?$`)},
	{"r", regexp.MustCompile(`^receiver (0|-?[1-9][0-9]*)( opens)?$`)},
	{"g", regexp.MustCompile(`^gate( (0|-?[1-9][0-9]*)){3}$`)},
	{"F", regexp.MustCompile(`^frame( (0|-?[1-9][0-9]*)){0,64}$`)},
	{"B", regexp.MustCompile(`^budget( (0|-?[1-9][0-9]*)){3}$`)},
}

// lineRow is what the letters of the lines of a text may be, and of each beginning of one.
var lineRow = regexp.MustCompile(`^f{0,16}t{0,16}(cl{0,16}r{0,16}){0,32}g{0,16}(FB?)?$`)

// plainLine is the letter of a line, or none.
func plainLine(l string) string {
	for _, k := range lineKinds {
		if !k.pattern.MatchString(l) {
			continue
		}
		last := big.NewInt(-1)
		for _, w := range strings.Fields(l)[1:] {
			n, ok := new(big.Int).SetString(w, 10)
			if !ok {
				continue
			}
			if !n.IsInt64() || k.letter == "f" && (n.Cmp(last) <= 0 || n.Cmp(big.NewInt(63)) > 0) {
				return ""
			}
			last = n
		}
		return k.letter
	}
	return ""
}

// plainParse tells where a text parts from a text of settings, and whether it does.
func plainParse(s string) (int, bool) {
	l := strings.Split(s, "\n")
	row := ""
	for i, x := range l[:len(l)-1] {
		letter := plainLine(x)
		if letter == "" || !lineRow.MatchString(row+letter) {
			return i, false
		}
		row += letter
	}
	if !strings.HasSuffix(row, "B") || l[len(l)-1] != "" {
		return len(row), false
	}
	return 0, true
}

// dice is a row of numbers that look like chance, the same ones each time.
type dice uint64

func (d *dice) next() uint64 {
	*d += 0x9e3779b97f4a7c15
	x := uint64(*d)
	x = (x ^ x>>30) * 0xbf58476d1ce4e5b9
	x = (x ^ x>>27) * 0x94d049bb133111eb
	return x ^ x>>31
}

// below is one of 0 to n less 1; n is at least 1.
func (d *dice) below(n int) int { return int(d.next() % uint64(n)) }

// good makes settings that may be.
func (d *dice) good(t *testing.T) api.Conf {
	t.Helper()
	c := api.Conf{Budget: 1 + d.below(16), Requests: 1 + d.below(4), Pending: 1 + d.below(4)}
	labels := 1 + d.below(6)
	for range labels {
		c.Flows = append(c.Flows, d.next()&d.next()&(1<<labels-1))
	}
	c.Flows, _ = bits.Closure(c.Flows)
	for i := range 1 + d.below(8) {
		c.Tenants = append(c.Tenants, api.Tenant{Label: d.below(labels)})
		c.Frame = append(c.Frame, i)
	}
	for range d.below(9) {
		c.Frame = append(c.Frame, d.below(len(c.Tenants)))
	}
	for range d.below(6) {
		c.Channels = append(c.Channels, d.channel(c))
	}
	for range d.below(4) {
		c.Gates = append(c.Gates, api.Gate{From: d.below(len(c.Tenants)), To: d.below(len(c.Tenants)), Room: 1 + d.below(1024)})
	}
	for i := range c.Tenants {
		spent := 0
		for j := range c.Channels {
			for k, l := range c.Channels[j].Lanes {
				if l.Tenant == i {
					credit := 1 + d.below(min(64, 256-8-spent))
					c.Channels[j].Lanes[k].Credit = credit
					spent += credit
				}
			}
		}
		c.Tenants[i].Quota = spent + d.below(2)*d.below(257-spent)
	}
	return c
}

// channel makes one that the policy and the tenants allow, its credits aside.
func (d *dice) channel(c api.Conf) api.Channel {
	f := faults{Conf: c}
	ch := api.Channel{Label: d.below(len(c.Flows))}
	first := d.below(len(c.Tenants))
	for i, t := range c.Tenants {
		if f.to(t.Label, ch.Label) && d.below(4) > 0 {
			ch.Lanes = append(ch.Lanes, api.Lane{Tenant: i, Opens: d.below(2) == 0})
		}
		alike := f.to(t.Label, c.Tenants[first].Label) && f.to(c.Tenants[first].Label, t.Label)
		if alike && f.to(ch.Label, t.Label) && d.below(5) > 0 {
			ch.Receivers = append(ch.Receivers, api.Receiver{Tenant: i, Opens: d.below(2) == 0})
		}
	}
	return ch
}

// spoil changes one thing of settings, often to one that may not be.
func (d *dice) spoil(c *api.Conf) {
	edges := []int{-1, 0, 1, 2, 3, 4, 5, 15, 16, 17, 64, 65, 255, 256, 257, 1024, 1025, math.MaxInt, math.MinInt, len(c.Flows), len(c.Tenants), len(c.Tenants) - 1}
	n := edges[d.below(len(edges))]
	switch d.below(18) {
	case 0:
		c.Flows = append(c.Flows, d.next()>>d.below(64))
	case 1:
		c.Flows = c.Flows[:d.below(len(c.Flows)+1)]
	case 2:
		one(d, c.Flows, func(x *uint64) { *x ^= 1 << d.below(8) })
	case 3:
		one(d, c.Tenants, func(x *api.Tenant) { x.Label = n })
	case 4:
		one(d, c.Tenants, func(x *api.Tenant) { x.Quota = n })
	case 5:
		c.Tenants = c.Tenants[:d.below(len(c.Tenants)+1)]
	case 6:
		one(d, c.Channels, func(x *api.Channel) { x.Label = n })
	case 7, 8:
		one(d, c.Channels, func(x *api.Channel) { one(d, x.Lanes, func(x *api.Lane) { x.Tenant = n }) })
	case 9:
		one(d, c.Channels, func(x *api.Channel) { one(d, x.Lanes, func(x *api.Lane) { x.Credit = n }) })
	case 10, 11:
		one(d, c.Channels, func(x *api.Channel) { one(d, x.Receivers, func(x *api.Receiver) { x.Tenant = n }) })
	case 12:
		one(d, c.Gates, func(x *api.Gate) { x.From = n })
	case 13:
		one(d, c.Gates, func(x *api.Gate) { x.To = n })
	case 14:
		one(d, c.Gates, func(x *api.Gate) { x.Room = n })
	case 15:
		one(d, c.Frame, func(x *int) { *x = n })
	case 16:
		c.Frame = c.Frame[:d.below(len(c.Frame)+1)]
	case 17:
		*[]*int{&c.Budget, &c.Requests, &c.Pending}[d.below(3)] = n
	}
}

// one changes one of a list, if there is any.
func one[T any](d *dice, l []T, change func(*T)) {
	if len(l) > 0 {
		change(&l[d.below(len(l))])
	}
}

// someGood are settings that may be: those made by hand, and many others.
func someGood(t *testing.T) []api.Conf {
	t.Helper()
	l := []api.Conf{example(), wide(), limits()}
	d := dice(1)
	for range 400 {
		l = append(l, d.good(t))
	}
	for _, c := range l {
		if n, e := conf.Check(c); n != 0 || e != api.OK {
			t.Fatalf("Check(%+v) = %d, %d", c, n, e)
		}
	}
	return l
}

// someBad are settings that may not be, among some that may.
func someBad(t *testing.T) []api.Conf {
	t.Helper()
	l := []api.Conf{{}, strange()}
	d := dice(2)
	for range 6000 {
		c := d.good(t)
		for range 1 + d.below(3) {
			d.spoil(&c)
		}
		l = append(l, c)
	}
	return l
}

// clone shares nothing with settings.
func clone(c api.Conf) api.Conf {
	r := c
	r.Flows = append([]uint64(nil), c.Flows...)
	r.Tenants = append([]api.Tenant(nil), c.Tenants...)
	r.Channels = nil
	for _, ch := range c.Channels {
		r.Channels = append(r.Channels, api.Channel{
			Label:     ch.Label,
			Lanes:     append([]api.Lane(nil), ch.Lanes...),
			Receivers: append([]api.Receiver(nil), ch.Receivers...),
		})
	}
	r.Gates = append([]api.Gate(nil), c.Gates...)
	r.Frame = append([]int(nil), c.Frame...)
	return r
}
