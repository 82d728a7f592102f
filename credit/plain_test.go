package credit_test

import (
	"fmt"
	"math"
	"testing"

	"rampart/api"
	"rampart/credit"
)

// last is the last epoch.
const last = 1 << 40

// act is what Run is handed.
type act = func(api.Credit) (api.Credit, api.Errno)

// edges are numbers at which something ends, and some that are far from all of them.
var edges = []int{
	math.MinInt, math.MinInt + 1, -last - 1, -last, -257, -256, -1, 0, 1, 2, 3, 63, 64, 65, 254, 255, 256, 257, 512,
	1 << 32, 1<<32 + 1, last - 1, last, last + 1, last + 256, math.MaxInt - 1, math.MaxInt,
}

// mayBe is the chapter's word.
func mayBe(c api.Credit) bool {
	if c.Room < 1 || c.Room > 256 {
		return false
	}
	if c.Spent < 0 || c.Spent > c.Room {
		return false
	}
	return c.Epoch >= 0 && c.Epoch <= last
}

// deed is a call of one account; epoch is Back's.
type deed struct {
	kind  string
	epoch int
}

// told is what a call of one account answers, all of it.
type told struct {
	c    api.Credit
	left int
	e    api.Errno
}

// kinds are all calls that are handed one account, but Run.
var kinds = []string{"Check", "Left", "Spend", "Back", "Reset"}

// do does a deed to an account.
func do(c api.Credit, d deed) (got told) {
	switch d.kind {
	case "Check":
		got.e = credit.Check(c)
	case "Left":
		got.left = credit.Left(c)
	case "Spend":
		got.c, got.e = credit.Spend(c)
	case "Back":
		got.c, got.e = credit.Back(c, d.epoch)
	case "Reset":
		got.c, got.e = credit.Reset(c)
	default:
		panic(d.kind)
	}
	return got
}

// plain is what the chapter's words say that a deed tells.
func plain(c api.Credit, d deed) told {
	if !mayBe(c) {
		if d.kind == "Left" {
			return told{}
		}
		return told{e: 131}
	}
	switch d.kind {
	case "Left":
		return told{left: c.Room - c.Spent}
	case "Spend":
		if c.Spent == c.Room {
			return told{e: 130}
		}
		return told{c: api.Credit{Room: c.Room, Spent: c.Spent + 1, Epoch: c.Epoch}}
	case "Back":
		if d.epoch != c.Epoch {
			return told{c: c}
		}
		if c.Spent == 0 {
			return told{e: 130}
		}
		return told{c: api.Credit{Room: c.Room, Spent: c.Spent - 1, Epoch: c.Epoch}}
	case "Reset":
		if c.Epoch == last {
			return told{e: 3}
		}
		return told{c: api.Credit{Room: c.Room, Epoch: c.Epoch + 1}}
	}
	return told{}
}

// tells does a deed to an account, and fails if it tells otherwise than the chapter's words.
func tells(t testing.TB, c api.Credit, d deed) told {
	t.Helper()
	got := do(c, d)
	if want := plain(c, d); got != want {
		t.Fatalf("%v of %v: %+v, want %+v", d, c, got, want)
	}
	return got
}

// opens is an account that Open must open.
func opens(t testing.TB, room int) api.Credit {
	t.Helper()
	c, e := credit.Open(room)
	if want := (api.Credit{Room: room}); c != want || e != api.OK {
		t.Fatalf("Open(%d) = %v, %d", room, c, e)
	}
	return c
}

// plainAccounts are what the chapter's words say of Accounts.
func plainAccounts(l []api.Channel) ([][]api.Credit, api.Errno) {
	var all [][]api.Credit
	for _, x := range l {
		var row []api.Credit
		for _, lane := range x.Lanes {
			if lane.Credit < 1 || lane.Credit > 256 {
				return nil, 131
			}
			row = append(row, api.Credit{Room: lane.Credit})
		}
		all = append(all, row)
	}
	return all, 0
}

// plainHeld is what the chapter's words say of Held, error by error.
func plainHeld(l []api.Channel, a [][]api.Credit, tenant int) (int, api.Errno) {
	if len(l) != len(a) {
		return 0, 1
	}
	for i := range l {
		if len(l[i].Lanes) != len(a[i]) {
			return 0, 1
		}
	}
	for _, row := range a {
		for _, c := range row {
			if !mayBe(c) {
				return 0, 131
			}
		}
	}
	sum := 0
	for i := range l {
		for k := range l[i].Lanes {
			if l[i].Lanes[k].Tenant == tenant {
				sum += a[i][k].Spent
			}
		}
	}
	return sum, 0
}

// text is rows as a text, the same one for nil and for empty ones.
func text(a [][]api.Credit) string {
	s := ""
	for _, row := range a {
		s += "row"
		for _, c := range row {
			s += fmt.Sprintf(" %d/%d/%d", c.Room, c.Spent, c.Epoch)
		}
		s += "\n"
	}
	return s
}

// dice is a row of numbers that looks like chance, the same one each time.
type dice uint64

// to is a number from 0 to n-1.
func (d *dice) to(n int) int {
	*d += 0x9e3779b97f4a7c15
	z := uint64(*d)
	z = (z ^ z>>30) * 0xbf58476d1ce4e5b9
	z = (z ^ z>>27) * 0x94d049bb133111eb
	return int((z ^ z>>31) % uint64(n))
}

// account is one that may be.
func (d *dice) account() api.Credit {
	c := api.Credit{Room: 1 + d.to(256), Epoch: d.to(3)}
	c.Spent = d.to(c.Room + 1)
	if d.to(4) == 0 {
		c.Epoch = last - d.to(3)
	}
	return c
}

// wrongAccount is one that may not be, by one of its numbers or by several.
func (d *dice) wrongAccount() api.Credit {
	for {
		c := d.account()
		switch d.to(4) {
		case 0:
			c.Room = edges[d.to(len(edges))]
		case 1:
			c.Spent = c.Room + 1 + d.to(2)
		case 2:
			c.Spent = edges[d.to(len(edges))]
		case 3:
			c.Epoch = edges[d.to(len(edges))]
		}
		if !mayBe(c) {
			return c
		}
	}
}

// channels are some, of some lanes each, none at times, with credits that may be.
func (d *dice) channels() []api.Channel {
	l := make([]api.Channel, d.to(6))
	for i := range l {
		for range d.to(5) {
			l[i].Lanes = append(l[i].Lanes, api.Lane{Tenant: d.to(4), Credit: 1 + d.to(256), Opens: d.to(2) == 0})
		}
	}
	return l
}

// rows are accounts for the lanes of channels, by chance.
func (d *dice) rows(l []api.Channel) [][]api.Credit {
	a := make([][]api.Credit, len(l))
	for i, x := range l {
		for range x.Lanes {
			a[i] = append(a[i], d.account())
		}
	}
	return a
}
