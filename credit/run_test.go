package credit_test

import (
	"math"
	"slices"
	"testing"

	"rampart/api"
	"rampart/credit"
)

// runs fails if Run tells otherwise than it must.
func runs(t testing.TB, c api.Credit, acts []act, want api.Credit, place int, wrong api.Errno) {
	t.Helper()
	if got, n, e := credit.Run(c, acts...); got != want || n != place || e != wrong {
		t.Errorf("%d acts to %v: %v, %d, %d, want %v, %d, %d", len(acts), c, got, n, e, want, place, wrong)
	}
}

// back is a closure that gives back one of an epoch.
func back(epoch int) act {
	return func(c api.Credit) (api.Credit, api.Errno) { return credit.Back(c, epoch) }
}

// always is a closure that tells always the same.
func always(c api.Credit, e api.Errno) act {
	return func(api.Credit) (api.Credit, api.Errno) { return c, e }
}

// purse is a type with a method whose value is an act.
type purse struct{ step int }

// of is an account some epochs later.
func (p purse) of(c api.Credit) (api.Credit, api.Errno) {
	c.Epoch += p.step
	return c, api.OK
}

// wallet is an account of a type of one's own, with methods.
type wallet api.Credit

// double spends as much again.
func (w wallet) double() (wallet, api.Errno) {
	if w.Spent > 100 {
		return wallet{}, 77
	}
	w.Spent *= 2
	return w, api.OK
}

// over makes an act of a method expression.
func over(f func(wallet) (wallet, api.Errno)) act {
	return func(c api.Credit) (api.Credit, api.Errno) {
		w, e := f(wallet(c))
		return api.Credit(w), e
	}
}

// P13.4: no acts tell the account as it is, whether it may be or not.
func TestRunNothing(t *testing.T) {
	for _, c := range []api.Credit{{}, {Room: 3, Spent: 1, Epoch: 2}, {Room: -1, Spent: 5, Epoch: -7}, {Room: math.MaxInt, Spent: math.MinInt, Epoch: last + 1}} {
		runs(t, c, nil, c, 0, 0)
		runs(t, c, []act{}, c, 0, 0)
		if got, n, e := credit.Run(c); got != c || n != 0 || e != api.OK {
			t.Errorf("Run(%v) = %v, %d, %d", c, got, n, e)
		}
	}
}

// P13.4: acts to the end.
func TestRunAll(t *testing.T) {
	c := api.Credit{Room: 3}
	runs(t, c, []act{credit.Spend}, api.Credit{Room: 3, Spent: 1}, 1, 0)
	runs(t, c, []act{credit.Spend, credit.Spend, back(0), credit.Spend, credit.Spend}, api.Credit{Room: 3, Spent: 3}, 5, 0)
	runs(t, c, []act{credit.Spend, credit.Reset, back(0), credit.Spend}, api.Credit{Room: 3, Spent: 1, Epoch: 1}, 4, 0)
	runs(t, c, []act{credit.Reset, credit.Reset}, api.Credit{Room: 3, Epoch: 2}, 2, 0)
	if got, n, e := credit.Run(c, credit.Spend, credit.Reset); got != (api.Credit{Room: 3, Epoch: 1}) || n != 2 || e != api.OK {
		t.Errorf("Spend, Reset: %v, %d, %d", got, n, e)
	}
}

// P13.4: an error at each place: the account ahead of it, its place, the error; no act behind it is asked.
func TestRunError(t *testing.T) {
	for place := range 5 {
		acts := slices.Repeat([]act{credit.Spend}, 5)
		acts[place] = always(api.Credit{Room: 99, Spent: 9, Epoch: 9}, 42)
		runs(t, api.Credit{Room: 9, Epoch: 3}, acts, api.Credit{Room: 9, Spent: place, Epoch: 3}, place, 42)
	}
	c := api.Credit{Room: 2}
	runs(t, c, []act{credit.Spend, credit.Spend, credit.Spend, credit.Reset}, api.Credit{Room: 2, Spent: 2}, 2, 130)
	runs(t, c, []act{back(0), credit.Spend}, c, 0, 130)
	full := api.Credit{Room: 2, Spent: 2, Epoch: last}
	runs(t, full, []act{back(last), credit.Reset, credit.Spend}, api.Credit{Room: 2, Spent: 1, Epoch: last}, 1, 3)
	wrong := api.Credit{Room: 2, Spent: 3, Epoch: 5}
	runs(t, wrong, []act{credit.Spend}, wrong, 0, 131)
	runs(t, c, []act{credit.Spend, always(c, 5), always(c, 6), nil}, api.Credit{Room: 2, Spent: 1}, 1, 5)
}

// P13.4: an act that is nil, at the first place, behind others, at the end, and behind an error.
func TestRunNil(t *testing.T) {
	c := api.Credit{Room: 4, Epoch: 6}
	runs(t, c, []act{nil}, c, 0, 1)
	runs(t, c, []act{nil, credit.Spend}, c, 0, 1)
	runs(t, c, []act{nil, nil}, c, 0, 1)
	runs(t, c, []act{credit.Spend, nil}, api.Credit{Room: 4, Spent: 1, Epoch: 6}, 1, 1)
	runs(t, c, []act{credit.Spend, credit.Spend, nil, credit.Reset}, api.Credit{Room: 4, Spent: 2, Epoch: 6}, 2, 1)
	runs(t, c, []act{back(6), nil}, c, 0, 130)
	runs(t, api.Credit{}, []act{nil}, api.Credit{}, 0, 1)
	wrong := api.Credit{Room: -3, Spent: 8, Epoch: -1}
	runs(t, wrong, []act{nil}, wrong, 0, 1)
	if got, n, e := credit.Run(c, nil, credit.Spend); got != c || n != 0 || e != 1 {
		t.Errorf("nil, Spend: %v, %d, %d", got, n, e)
	}
}

// P13.4: any number but 0 is an error, and what an act tells is taken as it is, whether it may be or not.
func TestRunWhateverIsTold(t *testing.T) {
	c := api.Credit{Room: 4}
	for _, e := range []api.Errno{-1, 1, 2, 130, 131, 9999, math.MinInt, math.MaxInt} {
		runs(t, c, []act{credit.Spend, always(api.Credit{}, e), credit.Spend}, api.Credit{Room: 4, Spent: 1}, 1, e)
	}
	for _, odd := range []api.Credit{{}, {Room: -5, Spent: math.MaxInt, Epoch: math.MinInt}, {Room: 300, Spent: 400}} {
		runs(t, c, []act{always(odd, 0)}, odd, 1, 0)
		runs(t, c, []act{always(odd, 0), credit.Spend}, odd, 1, 131)
		runs(t, c, []act{always(odd, 0), always(c, 0), credit.Spend}, api.Credit{Room: 4, Spent: 1}, 3, 0)
		runs(t, odd, []act{always(c, 0), credit.Spend}, api.Credit{Room: 4, Spent: 1}, 2, 0)
	}
}

// P13.4: closures that share what they caught, method values and method expressions.
func TestRunWays(t *testing.T) {
	var asked []api.Credit
	note := func(c api.Credit) (api.Credit, api.Errno) {
		asked = append(asked, c)
		return credit.Spend(c)
	}
	runs(t, api.Credit{Room: 2}, []act{note, note, note, note}, api.Credit{Room: 2, Spent: 2}, 2, 130)
	if want := []api.Credit{{Room: 2}, {Room: 2, Spent: 1}, {Room: 2, Spent: 2}}; !slices.Equal(asked, want) {
		t.Errorf("the acts were handed %v, want %v", asked, want)
	}
	runs(t, api.Credit{Room: 5}, []act{purse{3}.of, purse{4}.of}, api.Credit{Room: 5, Epoch: 7}, 2, 0)
	step := purse.of
	by := func(c api.Credit) (api.Credit, api.Errno) { return step(purse{9}, c) }
	runs(t, api.Credit{Room: 5}, []act{by, credit.Spend, by}, api.Credit{Room: 5, Spent: 1, Epoch: 18}, 3, 0)
	twice := over(wallet.double)
	runs(t, api.Credit{Room: 256, Spent: 30}, []act{twice, twice, credit.Spend, twice}, api.Credit{Room: 256, Spent: 121}, 3, 77)
}

// P13.4: acts that run acts themselves.
func TestRunWithin(t *testing.T) {
	two := func(c api.Credit) (api.Credit, api.Errno) {
		c, _, e := credit.Run(c, credit.Spend, credit.Spend)
		return c, e
	}
	runs(t, api.Credit{Room: 5}, []act{two, two, two}, api.Credit{Room: 5, Spent: 4}, 2, 130)
}

// P13.4: very many acts.
func TestRunMany(t *testing.T) {
	const count = 100000
	acts := slices.Repeat([]act{credit.Spend, credit.Reset}, count/2)
	runs(t, api.Credit{Room: 1}, acts, api.Credit{Room: 1, Epoch: count / 2}, count, 0)
	acts[count-1] = nil
	runs(t, api.Credit{Room: 1}, acts, api.Credit{Room: 1, Spent: 1, Epoch: count/2 - 1}, count-1, 1)
}

// P13.4: deeds by chance, run at once and one by one.
func TestRunByChance(t *testing.T) {
	d := dice(135)
	ends := map[api.Errno]int{}
	for range 5000 {
		c := d.account()
		if d.to(9) == 0 {
			c = d.wrongAccount()
		}
		var acts []act
		want, place, wrong := c, 0, api.OK
		for range d.to(12) {
			x := deed{[]string{"Spend", "Back", "Reset"}[d.to(3)], d.to(4)}
			if d.to(3) == 0 {
				x.epoch = want.Epoch
			}
			if d.to(15) == 0 {
				x.kind = "nil"
				acts = append(acts, nil)
			} else {
				acts = append(acts, func(c api.Credit) (api.Credit, api.Errno) { got := do(c, x); return got.c, got.e })
			}
			if wrong != api.OK {
				continue
			}
			got := told{e: 1}
			if x.kind != "nil" {
				got = plain(want, x)
			}
			if wrong = got.e; wrong == api.OK {
				want, place = got.c, place+1
			}
		}
		runs(t, c, acts, want, place, wrong)
		ends[wrong]++
	}
	for _, e := range []api.Errno{0, 1, 3, 130, 131} {
		if ends[e] < 50 {
			t.Errorf("no more than %d rows end with %d", ends[e], e)
		}
	}
}
