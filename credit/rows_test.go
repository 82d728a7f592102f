package credit_test

import (
	"slices"
	"testing"

	"rampart/api"
	"rampart/credit"
)

// lanes is a channel with lanes of such credits, the first of which is tenant 0's, and so on.
func lanes(credits ...int) api.Channel {
	var x api.Channel
	for i, n := range credits {
		x.Lanes = append(x.Lanes, api.Lane{Tenant: i, Credit: n})
	}
	return x
}

// P13.3: Accounts of no channels, of channels without lanes, and of lanes, in rows.
func TestAccounts(t *testing.T) {
	for _, x := range []struct {
		l    []api.Channel
		want [][]api.Credit
	}{
		{nil, nil},
		{[]api.Channel{}, nil},
		{[]api.Channel{{}}, [][]api.Credit{{}}},
		{[]api.Channel{{}, {Lanes: []api.Lane{}}, {}}, [][]api.Credit{{}, {}, {}}},
		{[]api.Channel{lanes(1)}, [][]api.Credit{{{Room: 1}}}},
		{[]api.Channel{lanes(256, 1), {}, lanes(3, 64, 65)}, [][]api.Credit{{{Room: 256}, {Room: 1}}, {}, {{Room: 3}, {Room: 64}, {Room: 65}}}},
	} {
		a, e := credit.Accounts(x.l)
		if text(a) != text(x.want) || e != api.OK {
			t.Errorf("Accounts(%v) = %v, %d", x.l, a, e)
		}
	}
}

// P13.3: one lane whose Credit may not be, wherever it is, and there are no accounts.
func TestAccountsRefused(t *testing.T) {
	for _, wrong := range []int{-1, 0, 257, 1 << 32, -256} {
		for channel := range 3 {
			for lane := range 3 {
				l := []api.Channel{lanes(1, 2, 3), lanes(4, 5, 256), lanes(7, 8, 9)}
				l[channel].Lanes[lane].Credit = wrong
				if a, e := credit.Accounts(l); len(a) != 0 || e != 131 {
					t.Errorf("credit %d in lane %d of channel %d: %v, %d", wrong, lane, channel, a, e)
				}
			}
		}
	}
	if a, e := credit.Accounts([]api.Channel{{}, lanes(257), lanes(5, 0, -1)}); len(a) != 0 || e != 131 {
		t.Errorf("several that may not be: %v, %d", a, e)
	}
}

// P13.3: labels, tenants, receivers and who opens are nothing to accounts.
func TestAccountsOfCreditsAlone(t *testing.T) {
	l := []api.Channel{{Label: -9, Lanes: []api.Lane{{Tenant: -1, Credit: 2, Opens: true}, {Tenant: 99, Credit: 256}}, Receivers: []api.Receiver{{Tenant: -5}}}}
	if a, e := credit.Accounts(l); text(a) != text([][]api.Credit{{{Room: 2}, {Room: 256}}}) || e != api.OK {
		t.Errorf("Accounts(%v) = %v, %d", l, a, e)
	}
	long := slices.Repeat([]api.Channel{lanes(slices.Repeat([]int{3}, 40)...)}, 60)
	if a, e := credit.Accounts(long); len(a) != 60 || len(a[59]) != 40 || a[59][39] != (api.Credit{Room: 3}) || e != api.OK {
		t.Errorf("more channels and lanes than settings have: %d rows, %d", len(a), e)
	}
}

// holds fails if Held tells otherwise than it must.
func holds(t testing.TB, l []api.Channel, a [][]api.Credit, tenant, want int, wrong api.Errno) {
	t.Helper()
	if n, e := credit.Held(l, a, tenant); n != want || e != wrong {
		t.Errorf("Held(%v, %v, %d) = %d, %d, want %d, %d", l, a, tenant, n, e, want, wrong)
	}
}

// P13.3: a tenant with lanes in several channels, one with one, one with none.
func TestHeld(t *testing.T) {
	l := []api.Channel{
		{Lanes: []api.Lane{{Tenant: 1, Credit: 4}, {Tenant: 0, Credit: 2}}},
		{},
		{Lanes: []api.Lane{{Tenant: 3, Credit: 256}, {Tenant: 1, Credit: 3}}},
		{Lanes: []api.Lane{{Tenant: 1, Credit: 9}, {Tenant: -1, Credit: 9}}},
	}
	a, e := credit.Accounts(l)
	if e != api.OK {
		t.Fatal(e)
	}
	for tenant := -2; tenant < 20; tenant++ {
		holds(t, l, a, tenant, 0, 0)
	}
	a[0][0].Spent, a[0][1].Spent, a[2][0].Spent, a[2][1].Spent, a[3][0].Spent, a[3][1].Spent = 4, 2, 256, 3, 5, 8
	holds(t, l, a, 0, 2, 0)
	holds(t, l, a, 1, 12, 0)
	holds(t, l, a, 2, 0, 0)
	holds(t, l, a, 3, 256, 0)
	holds(t, l, a, -1, 8, 0)
	holds(t, l, a, 16, 0, 0)
	a[2][1] = api.Credit{Room: 200, Spent: 100, Epoch: last}
	holds(t, l, a, 1, 109, 0)
	holds(t, nil, nil, 0, 0, 0)
	holds(t, []api.Channel{{}, {}}, [][]api.Credit{nil, {}}, 0, 0, 0)
}

// P13.3: a tenant that a channel names twice, as no settings do, has spent in both lanes.
func TestHeldTwice(t *testing.T) {
	l := []api.Channel{{Lanes: []api.Lane{{Tenant: 2, Credit: 9}, {Tenant: 2, Credit: 9}}}}
	holds(t, l, [][]api.Credit{{{Room: 9, Spent: 2}, {Room: 9, Spent: 5}}}, 2, 7, 0)
}

// P13.3: rows and accounts that do not stand one for one with channels and lanes.
func TestHeldShape(t *testing.T) {
	l := []api.Channel{lanes(1, 2), {}, lanes(3)}
	one := api.Credit{Room: 3, Spent: 1}
	holds(t, l, [][]api.Credit{{one, one}, {}, {one}}, 0, 2, 0)
	for _, a := range [][][]api.Credit{
		nil, {}, {{one, one}}, {{one, one}, {}}, {{one, one}, {}, {one}, {}}, {{one, one}, {}, {one}, {one}}, {{one, one}, {one}},
		{{one}, {}, {one}}, {{}, {}, {one}}, {nil, nil, nil}, {{one, one, one}, {}, {one}}, {{one, one}, {one}, {one}},
		{{one, one}, {}, {}}, {{one, one}, {}, {one, one}}, {{one}, {one}, {one}}, {{one}, {}, {one, one}}, {{one, one, one}, {}, {}},
	} {
		for tenant := -1; tenant < 3; tenant++ {
			holds(t, l, a, tenant, 0, 1)
		}
	}
	holds(t, nil, [][]api.Credit{{}}, 0, 0, 1)
	holds(t, nil, [][]api.Credit{{one}}, 0, 0, 1)
	holds(t, []api.Channel{{}}, nil, 0, 0, 1)
	holds(t, []api.Channel{lanes(1)}, [][]api.Credit{nil}, 0, 0, 1)
}

// P13.3: one account that may not be, wherever it is and whosever.
func TestHeldRefused(t *testing.T) {
	l := []api.Channel{lanes(1, 2), {}, lanes(3, 4)}
	d := dice(133)
	for range 300 {
		a := d.rows(l)
		row := 2 * d.to(2)
		a[row][d.to(2)] = d.wrongAccount()
		for tenant := -1; tenant < 3; tenant++ {
			holds(t, l, a, tenant, 0, 131)
		}
	}
}

// P13.3: an account that may not be beside a wrong shape, ahead of it and behind: the shape is told.
func TestHeldFirstError(t *testing.T) {
	l := []api.Channel{lanes(1, 2), lanes(3)}
	one, bad := api.Credit{Room: 3, Spent: 1}, api.Credit{Room: 1, Spent: 2}
	for _, a := range [][][]api.Credit{
		{{bad, one}}, {{bad, bad}}, {{bad}, {one}}, {{bad, one, one}, {one}}, {{one, one, bad}, {one}},
		{{bad, one}, {}}, {{bad, one}, {one, one}}, {{one}, {bad}}, {{one, one}, {one}, {bad}}, {{bad, one}, {one}, {}}, {{}, {bad}},
	} {
		holds(t, l, a, 0, 0, 1)
	}
	holds(t, l, [][]api.Credit{{bad, one}, {one}}, 0, 0, 131)
	holds(t, l, [][]api.Credit{{one, one}, {bad}}, 1, 0, 131)
}

// P13.3: rows by chance, right and wrong ones, against the chapter's words.
func TestRowsByChance(t *testing.T) {
	d := dice(134)
	var count [2]int
	for range 4000 {
		l := d.channels()
		a := d.rows(l)
		for range d.to(3) {
			d.spoil(l, a)
		}
		if len(a) > 0 && d.to(10) == 0 {
			a = a[1:]
		}
		want, wrong := plainAccounts(l)
		if got, e := credit.Accounts(l); text(got) != text(want) || e != wrong {
			t.Fatalf("Accounts(%v) = %v, %d", l, got, e)
		}
		for tenant := -1; tenant < 5; tenant++ {
			n, e := plainHeld(l, a, tenant)
			holds(t, l, a, tenant, n, e)
			count[min(1, e)]++
		}
	}
	if count[0] < 3000 || count[1] < 3000 {
		t.Errorf("%d right ones, %d wrong ones", count[0], count[1])
	}
}

// spoil makes one thing of channels and rows wrong, at times.
func (d *dice) spoil(l []api.Channel, a [][]api.Credit) {
	if len(l) == 0 {
		return
	}
	at := d.to(len(l))
	if len(l[at].Lanes) == 0 || len(a[at]) == 0 {
		return
	}
	lane := d.to(min(len(l[at].Lanes), len(a[at])))
	switch d.to(4) {
	case 0:
		l[at].Lanes[lane].Credit = edges[d.to(len(edges))]
	case 1:
		a[at][lane] = d.wrongAccount()
	case 2:
		a[at] = a[at][1:]
	case 3:
		l[at].Lanes = l[at].Lanes[1:]
	}
}

// P13.3, rule 7: a sum of more than 32 bits.
func TestHeldGreatSum(t *testing.T) {
	const long, count = 1 << 15, 1 << 10
	row := slices.Repeat([]api.Credit{{Room: 256, Spent: 256}}, long)
	x := api.Channel{Lanes: slices.Repeat([]api.Lane{{Tenant: 4, Credit: 256}}, long)}
	n, e := credit.Held(slices.Repeat([]api.Channel{x}, count), slices.Repeat([][]api.Credit{row}, count), 4)
	if n != 256*long*count || e != api.OK {
		t.Errorf("Held = %d, %d", n, e)
	}
}
