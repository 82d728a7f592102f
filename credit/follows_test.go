package credit_test

import (
	"slices"
	"testing"

	"rampart/api"
	"rampart/credit"
)

// coins are an account as things that lie there: the epoch in which each was spent, -1 while it is left.
type coins struct {
	epoch int
	in    []int
}

// spent is how many coins are.
func (k *coins) spent() int {
	n := 0
	for _, epoch := range k.in {
		if epoch >= 0 {
			n++
		}
	}
	return n
}

// swap puts one coin of an epoch into another one, and tells whether there was any.
func (k *coins) swap(from, to int) bool {
	at := slices.Index(k.in, from)
	if at >= 0 {
		k.in[at] = to
	}
	return at >= 0
}

// do does a deed to coins, and tells whether it could be done.
func (k *coins) do(d deed) bool {
	switch d.kind {
	case "Spend":
		return k.swap(-1, k.epoch)
	case "Back":
		if d.epoch != k.epoch {
			return true
		}
		return k.swap(k.epoch, -1)
	case "Reset":
		for k.swap(k.epoch, -1) {
		}
		k.epoch++
	}
	return true
}

// changing are the kinds of deeds that change an account.
var changing = []string{"Spend", "Back", "Reset"}

// walk does deeds by chance to an open account and to coins, and hands each to look with the account ahead of it and what it told.
func walk(t *testing.T, d *dice, room, count int, look func(c api.Credit, x deed, got told)) {
	t.Helper()
	c, k := opens(t, room), &coins{in: slices.Repeat([]int{-1}, room)}
	for range count {
		x := deed{"Spend", c.Epoch}
		if n := d.to(20); n < 7 {
			x.kind = "Back"
		} else if n == 7 {
			x.kind = "Reset"
		}
		if d.to(4) == 0 {
			x.epoch = d.to(c.Epoch+3) - 1
		}
		got := do(c, x)
		look(c, x, got)
		if k.do(x) != (got.e == api.OK) {
			t.Fatalf("%v of %v: %+v", x, c, got)
		}
		if got.e == api.OK {
			c = got.c
		}
		if c.Spent != k.spent() || c.Epoch != k.epoch || credit.Left(c) != room-k.spent() {
			t.Fatalf("behind %v: %v, %d left; of %v", x, c, credit.Left(c), k)
		}
	}
}

// P13.5: whatever is done to an open account, what is left and what is spent are together its Room, neither below 0, and it may be.
func TestBounded(t *testing.T) {
	d := dice(1350)
	refused := 0
	for room := 1; room <= 256; room += 1 + room/9 {
		walk(t, &d, room, 3000, func(c api.Credit, x deed, got told) {
			if got.e != api.OK {
				refused++
				if got.e != 130 || got.c != (api.Credit{}) {
					t.Fatalf("%v of %v: %+v", x, c, got)
				}
				return
			}
			left := credit.Left(got.c)
			if left+got.c.Spent != room || left < 0 || got.c.Spent < 0 || got.c.Room != room || credit.Check(got.c) != api.OK {
				t.Fatalf("%v of %v: %+v, %d left", x, c, got, left)
			}
		})
	}
	if refused < 300 {
		t.Errorf("no more than %d deeds are refused", refused)
	}
}

// P13.5: all rows of deeds up to seven, from small accounts on.
func TestBoundedAllRows(t *testing.T) {
	deeds := []deed{{kind: "Spend"}, {kind: "Reset"}, {"Back", 0}, {"Back", 1}, {"Back", 2}}
	var from func(c api.Credit, k coins, more int)
	from = func(c api.Credit, k coins, more int) {
		if left := credit.Left(c); left != c.Room-k.spent() || left < 0 || c.Spent < 0 || left+c.Spent != c.Room || c.Epoch != k.epoch {
			t.Fatalf("%v, %d left; of %v", c, left, k)
		}
		if more == 0 {
			return
		}
		for _, x := range deeds {
			next := coins{epoch: k.epoch, in: slices.Clone(k.in)}
			got := tells(t, c, x)
			if next.do(x) != (got.e == api.OK) {
				t.Fatalf("%v of %v: %+v", x, c, got)
			}
			if got.e == api.OK {
				from(got.c, next, more-1)
			}
		}
	}
	for room := 1; room <= 3; room++ {
		from(opens(t, room), coins{in: slices.Repeat([]int{-1}, room)}, 7)
	}
}

// P13.6: behind Reset what is given back of any elder epoch changes nothing, however often, whatever was spent then and is spent now.
func TestOnce(t *testing.T) {
	for _, room := range []int{1, 2, 7, 256} {
		c := opens(t, room)
		for epoch := range 5 {
			for range room {
				c = tells(t, c, deed{kind: "Spend"}).c
				for elder := range epoch {
					if same, e := credit.Back(c, elder); same != c || e != api.OK {
						t.Fatalf("Back(%v, %d) = %v, %d", c, elder, same, e)
					}
				}
			}
			c = tells(t, c, deed{kind: "Reset"}).c
			for elder := range epoch + 1 {
				for range room + 1 {
					if same, e := credit.Back(c, elder); same != c || e != api.OK {
						t.Fatalf("Back(%v, %d) = %v, %d", c, elder, same, e)
					}
				}
			}
		}
	}
}

// P13.6: in an epoch no more comes back than was spent in it, across resets by chance.
func TestNoMoreThanWasSpent(t *testing.T) {
	d := dice(136)
	elder := 0
	for _, room := range []int{1, 3, 20} {
		spent := map[int]int{}
		walk(t, &d, room, 5000, func(c api.Credit, x deed, got told) {
			if got.e != api.OK {
				return
			}
			switch x.kind {
			case "Spend":
				spent[c.Epoch]++
			case "Back":
				if got.c != c {
					spent[x.epoch]--
				}
				if x.epoch < c.Epoch {
					elder++
				}
				if spent[x.epoch] < 0 || x.epoch != c.Epoch && got.c != c {
					t.Fatalf("%v of %v: %+v", x, c, got)
				}
			}
		})
	}
	if elder < 300 {
		t.Errorf("no more than %d were given back of elder epochs", elder)
	}
}
