package credit_test

import (
	"fmt"
	"slices"
	"sync"
	"testing"

	"rampart/api"
	"rampart/credit"
)

// mark stands where nobody may write.
const mark = -77777

// roomy are channels with the same lanes, whose lists have room behind them, with marks there.
func roomy(l []api.Channel) []api.Channel {
	out := make([]api.Channel, 0, len(l)+2)
	for _, x := range l {
		x.Lanes = append(slices.Clone(x.Lanes), api.Lane{Credit: mark}, api.Lane{Credit: mark})[:len(x.Lanes)]
		out = append(out, x)
	}
	return append(out, api.Channel{Label: mark}, api.Channel{Label: mark})[:len(l)]
}

// roomyRows are rows with the same accounts, with marks behind them likewise.
func roomyRows(a [][]api.Credit) [][]api.Credit {
	out := make([][]api.Credit, 0, len(a)+2)
	for _, row := range a {
		out = append(out, append(slices.Clone(row), api.Credit{Room: mark}, api.Credit{Room: mark})[:len(row)])
	}
	return append(out, []api.Credit{{Room: mark}}, nil)[:len(a)]
}

// whole is all that channels and rows have, up to the ends of their rooms, as a text.
func whole(l []api.Channel, a [][]api.Credit) string {
	s := ""
	for _, x := range l[:cap(l)] {
		s += fmt.Sprintln(x.Label, x.Lanes[:cap(x.Lanes)], x.Receivers)
	}
	for _, row := range a[:cap(a)] {
		s += fmt.Sprintln(row[:cap(row)])
	}
	return s
}

// Rule 1: any numbers, in accounts that nobody made, and in channels and rows that settings could not have.
func TestAnyNumbers(t *testing.T) {
	d := dice(1)
	edge := func() int { return edges[d.to(len(edges))] }
	for range 3000 {
		l, a := d.channels(), [][]api.Credit{}
		for i := range l {
			for k := range l[i].Lanes {
				l[i].Lanes[k] = api.Lane{Tenant: edge(), Credit: edge()}
			}
			a = append(a, make([]api.Credit, max(0, len(l[i].Lanes)-d.to(2))))
			for k := range a[i] {
				a[i][k] = api.Credit{Room: edge(), Spent: edge(), Epoch: edge()}
			}
		}
		want, wrong := plainAccounts(l)
		if got, e := credit.Accounts(l); text(got) != text(want) || e != wrong {
			t.Fatalf("Accounts(%v) = %v, %d", l, got, e)
		}
		tenant := edge()
		n, e := plainHeld(l, a, tenant)
		holds(t, l, a, tenant, n, e)
	}
}

// Rule 2: with an error all else is zero, where the chapter names nothing else.
func TestZeroBesideErrors(t *testing.T) {
	d := dice(2)
	for range 2000 {
		c := d.wrongAccount()
		for _, kind := range changing {
			if got := do(c, deed{kind, c.Epoch}); got != (told{e: 131}) {
				t.Errorf("%s of %v: %+v", kind, c, got)
			}
		}
		l := d.channels()
		a := append(d.rows(l), []api.Credit{c})
		holds(t, l, a, 0, 0, 1)
		l = append(l, lanes(c.Room))
		holds(t, l, a, 0, 0, 131)
	}
}

// Rule 4: nothing that is handed in is changed, up to the ends of the rooms, nor does an answer hang on these.
func TestNothingIsChanged(t *testing.T) {
	d := dice(3)
	for range 1000 {
		l := d.channels()
		a := d.rows(l)
		for range d.to(2) {
			d.spoil(l, a)
		}
		in, rows := roomy(l), roomyRows(a)
		before := whole(in, rows)
		want, wrong := plainAccounts(l)
		if got, e := credit.Accounts(in); text(got) != text(want) || e != wrong {
			t.Fatalf("Accounts(%v) = %v, %d", l, got, e)
		}
		n, e := plainHeld(l, a, 1)
		holds(t, in, rows, 1, n, e)
		if s := whole(in, rows); s != before {
			t.Fatalf("what is handed in was\n%s, and is\n%s", before, s)
		}
	}
}

// Rule 4: nil and empty lists are the same, in channels, lanes and rows.
func TestNilIsEmpty(t *testing.T) {
	none, some := []api.Channel{{}, {}}, []api.Channel{{Lanes: []api.Lane{}}, {Lanes: make([]api.Lane, 0, 5)}}
	for _, l := range [][]api.Channel{none, some} {
		if a, e := credit.Accounts(l); len(a) != 2 || len(a[0]) != 0 || len(a[1]) != 0 || e != api.OK {
			t.Errorf("Accounts(%v) = %v, %d", l, a, e)
		}
		for _, a := range [][][]api.Credit{{nil, nil}, {{}, make([]api.Credit, 0, 5)}} {
			holds(t, l, a, 0, 0, 0)
		}
	}
	for _, l := range [][]api.Channel{nil, {}} {
		for _, a := range [][][]api.Credit{nil, {}, make([][]api.Credit, 0, 5)} {
			holds(t, l, a, 0, 0, 0)
		}
	}
}

// Rule 4: what Accounts told may be changed, row by row and up to the ends of the rooms: no other row, no other answer and no channel changes; nor does an answer if the channels do.
func TestNewMemory(t *testing.T) {
	l := roomy([]api.Channel{lanes(1, 2, 3), {}, lanes(4), lanes(5, 6)})
	before := whole(l, nil)
	one, e := credit.Accounts(l)
	two, e2 := credit.Accounts(l)
	if e != api.OK || e2 != api.OK {
		t.Fatal(e, e2)
	}
	want := text(two)
	for i := range one {
		others := text(slices.Delete(slices.Clone(one), i, i+1))
		room := one[i][:cap(one[i])]
		for k := range room {
			room[k] = api.Credit{Room: mark}
		}
		_ = append(one[i], api.Credit{Room: mark}, api.Credit{Room: mark})
		if s := text(slices.Delete(slices.Clone(one), i, i+1)); s != others {
			t.Errorf("row %d is another one too: %s", i, s)
		}
	}
	for i := range one[:cap(one)] {
		one[:cap(one)][i] = nil
	}
	if s := whole(l, nil); s != before {
		t.Errorf("the channels were\n%s, and are\n%s", before, s)
	}
	for i := range l {
		for k := range l[i].Lanes {
			l[i].Lanes[k] = api.Lane{Credit: mark}
		}
		l[i] = api.Channel{}
	}
	if text(two) != want {
		t.Errorf("the other answer was\n%s, and is\n%s", want, text(two))
	}
}

// Rule 4: the row of acts is not changed, nor is the room behind it asked.
func TestActsAreKept(t *testing.T) {
	count := 0
	note := func(c api.Credit) (api.Credit, api.Errno) { count++; return c, 0 }
	bad := always(api.Credit{}, 9)
	row := []act{note, note, bad, note, nil}
	c := api.Credit{Room: 5}
	for range 3 {
		runs(t, c, row[:2], c, 2, 0)
		runs(t, c, row, c, 2, 9)
		runs(t, c, row[3:4], c, 1, 0)
		runs(t, c, row[3:], c, 1, 1)
	}
	if count != 3*(2+2+1+1) {
		t.Errorf("%d acts were asked", count)
	}
}

// Rule 5: what was asked ahead of a call, or is asked beside it, changes nothing.
func TestNothingIsKept(t *testing.T) {
	l := []api.Channel{lanes(4, 2), lanes(3)}
	a := [][]api.Credit{{{Room: 4, Spent: 2}, {Room: 2}}, {{Room: 3, Spent: 1}}}
	asked := []func() string{
		func() string { return fmt.Sprint(credit.Open(7)) },
		func() string { return fmt.Sprint(credit.Open(0)) },
		func() string {
			return fmt.Sprint(credit.Check(a[0][0]), credit.Left(a[0][0]), credit.Left(api.Credit{}))
		},
		func() string { return fmt.Sprint(credit.Spend(a[0][0])) },
		func() string { return fmt.Sprint(credit.Spend(api.Credit{Room: 1, Spent: 1})) },
		func() string { return fmt.Sprint(credit.Back(a[0][0], 0)) },
		func() string { return fmt.Sprint(credit.Back(a[0][0], 1)) },
		func() string { return fmt.Sprint(credit.Reset(a[0][0])) },
		func() string { return fmt.Sprint(credit.Accounts(l)) },
		func() string { return fmt.Sprint(credit.Accounts([]api.Channel{lanes(0)})) },
		func() string { return fmt.Sprint(credit.Held(l, a, 0)) },
		func() string { return fmt.Sprint(credit.Held(l, a[:1], 0)) },
		func() string { return fmt.Sprint(credit.Run(a[0][0], credit.Spend, credit.Reset, back(0))) },
		func() string { return fmt.Sprint(credit.Run(a[0][0], credit.Spend, nil)) },
	}
	want := make([]string, len(asked))
	for i, f := range asked {
		want[i] = f()
	}
	again := func() {
		for _, f := range asked {
			f()
			for i, g := range asked {
				if got := g(); got != want[i] {
					t.Errorf("call %d answered %s, then %s", i, want[i], got)
				}
			}
		}
	}
	again()
	var all sync.WaitGroup
	for range 8 {
		all.Go(again)
	}
	all.Wait()
}

// Any bytes, read as deeds: the first says how much room there is, and what is done runs at once too.
func FuzzAccount(f *testing.F) {
	f.Add([]byte{2, 0, 0, 0, 0, 0, 0, 2, 0, 1, 0})
	f.Add([]byte{255})
	f.Fuzz(func(t *testing.T, b []byte) {
		if len(b) == 0 || len(b) > 1000 {
			return
		}
		c := opens(t, 1+int(b[0]))
		first, acts := c, []act{}
		for x := range slices.Chunk(b[1:], 2) {
			if len(x) < 2 {
				break
			}
			d := deed{changing[int(x[0])%len(changing)], int(int8(x[1]))}
			acts = append(acts, func(c api.Credit) (api.Credit, api.Errno) { got := do(c, d); return got.c, got.e })
			got := tells(t, c, d)
			if got.e != api.OK {
				runs(t, first, acts, c, len(acts)-1, got.e)
				return
			}
			c = got.c
		}
		runs(t, first, acts, c, len(acts), 0)
	})
}
