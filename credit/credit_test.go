package credit_test

import (
	"testing"

	"rampart/api"
	"rampart/credit"
)

// The chapter's example.
func TestExample(t *testing.T) {
	c := opens(t, 2)
	for spent := 1; spent <= 2; spent++ {
		next, e := credit.Spend(c)
		if want := (api.Credit{Room: 2, Spent: spent}); next != want || e != api.OK {
			t.Fatalf("Spend number %d: %v, %d", spent, next, e)
		}
		c = next
	}
	if none, e := credit.Spend(c); none != (api.Credit{}) || e != 130 {
		t.Errorf("a third Spend: %v, %d", none, e)
	}
	c, e := credit.Reset(c)
	if c != (api.Credit{Room: 2, Epoch: 1}) || e != api.OK || credit.Left(c) != 2 {
		t.Errorf("Reset: %v, %d, %d left", c, e, credit.Left(c))
	}
	if same, e := credit.Back(c, 0); same != c || e != api.OK {
		t.Errorf("Back of epoch 0: %v, %d", same, e)
	}
}

// P13.1: which accounts may be, at the edges of each number.
func TestCheck(t *testing.T) {
	for _, x := range []struct {
		room, spent, epoch int
		want               api.Errno
	}{
		{-1, 0, 0, 131}, {0, 0, 0, 131}, {1, 0, 0, 0}, {256, 0, 0, 0}, {257, 0, 0, 131},
		{5, -1, 0, 131}, {5, 0, 0, 0}, {5, 5, 0, 0}, {5, 6, 0, 131},
		{1, 1, 0, 0}, {1, 2, 0, 131}, {256, 256, 0, 0}, {256, 257, 0, 131},
		{0, -1, 0, 131}, {-1, -1, 0, 131}, {-2, -1, 0, 131}, {257, 257, 0, 131},
		{5, 2, -1, 131}, {5, 2, 0, 0}, {5, 2, 1, 0}, {5, 2, last - 1, 0}, {5, 2, last, 0}, {5, 2, last + 1, 131},
		{256, 256, last, 0}, {0, 0, last, 131}, {0, 1, -1, 131},
	} {
		c := api.Credit{Room: x.room, Spent: x.spent, Epoch: x.epoch}
		if e := credit.Check(c); e != x.want {
			t.Errorf("Check(%v) = %d, want %d", c, e, x.want)
		}
	}
}

// P13.1: all rooms from 1 to 256 can be opened, with nothing spent, and no others.
func TestOpen(t *testing.T) {
	for room := -3; room < 1000; room++ {
		if room >= 1 && room <= 256 {
			c := opens(t, room)
			if left := credit.Left(c); left != room || credit.Check(c) != api.OK {
				t.Errorf("Open(%d): %d left, Check %d", room, left, credit.Check(c))
			}
			continue
		}
		opensNot(t, room)
	}
	for _, room := range edges {
		if room < 1 || room > 256 {
			opensNot(t, room)
		}
	}
}

func opensNot(t *testing.T, room int) {
	t.Helper()
	if c, e := credit.Open(room); c != (api.Credit{}) || e != 131 {
		t.Errorf("Open(%d) = %v, %d", room, c, e)
	}
}

// P13.1: what is left, of all that may be spent; of an account that may not be nothing.
func TestLeft(t *testing.T) {
	for _, room := range []int{1, 2, 64, 255, 256} {
		for spent := 0; spent <= room; spent++ {
			for _, epoch := range []int{0, 1, last} {
				if left := credit.Left(api.Credit{Room: room, Spent: spent, Epoch: epoch}); left != room-spent {
					t.Errorf("%d of %d are spent, and %d left", spent, room, left)
				}
			}
		}
	}
	for _, c := range []api.Credit{
		{}, {Room: 257}, {Room: 257, Spent: 3}, {Room: -1, Spent: -3}, {Room: 0, Spent: -3}, {Room: 5, Spent: -1}, {Room: 5, Spent: 6},
		{Room: 5, Epoch: -1}, {Room: 5, Epoch: last + 1},
	} {
		if left := credit.Left(c); left != 0 {
			t.Errorf("Left(%v) = %d", c, left)
		}
	}
}

// P13.2: Spend with some left, with one, and with none.
func TestSpend(t *testing.T) {
	for _, room := range []int{1, 2, 256} {
		for _, epoch := range []int{0, 1, last} {
			c := api.Credit{Room: room, Spent: room - 1, Epoch: epoch}
			next, e := credit.Spend(c)
			if next != (api.Credit{Room: room, Spent: room, Epoch: epoch}) || e != api.OK {
				t.Fatalf("Spend(%v) = %v, %d", c, next, e)
			}
			if none, e := credit.Spend(next); none != (api.Credit{}) || e != 130 {
				t.Errorf("Spend(%v) = %v, %d", next, none, e)
			}
		}
	}
	c := api.Credit{Room: 7, Spent: 2, Epoch: 3}
	if next, e := credit.Spend(c); next != (api.Credit{Room: 7, Spent: 3, Epoch: 3}) || e != api.OK {
		t.Errorf("Spend(%v) = %v, %d", c, next, e)
	}
}

// P13.2: Back of its own epoch, of an elder and of a later one, with nothing spent and with something.
func TestBack(t *testing.T) {
	for _, epoch := range []int{0, 1, 5, last} {
		for _, spent := range []int{0, 1, 4} {
			c := api.Credit{Room: 4, Spent: spent, Epoch: epoch}
			for _, other := range []int{epoch - 1, epoch + 1, -1 - epoch, epoch + 1<<32, -1, last + 1} {
				if same, e := credit.Back(c, other); same != c || e != api.OK {
					t.Errorf("Back(%v, %d) = %v, %d", c, other, same, e)
				}
			}
			want, wrong := api.Credit{Room: 4, Spent: spent - 1, Epoch: epoch}, api.OK
			if spent == 0 {
				want, wrong = api.Credit{}, 130
			}
			if got, e := credit.Back(c, epoch); got != want || e != wrong {
				t.Errorf("Back(%v, %d) = %v, %d", c, epoch, got, e)
			}
		}
	}
}

// P13.2: Reset up to the last epoch, and not behind it, whatever is spent.
func TestReset(t *testing.T) {
	for _, spent := range []int{0, 1, 9} {
		for _, epoch := range []int{0, 1, 1<<32 - 1, last - 1} {
			c := api.Credit{Room: 9, Spent: spent, Epoch: epoch}
			next, e := credit.Reset(c)
			if next != (api.Credit{Room: 9, Epoch: epoch + 1}) || e != api.OK {
				t.Errorf("Reset(%v) = %v, %d", c, next, e)
			}
		}
		c := api.Credit{Room: 9, Spent: spent, Epoch: last}
		if none, e := credit.Reset(c); none != (api.Credit{}) || e != 3 {
			t.Errorf("Reset(%v) = %v, %d", c, none, e)
		}
	}
}

// P13.2: of an account that may not be all are refused, ahead of any other error, and of Back that is not of its epoch.
func TestRefused(t *testing.T) {
	for _, c := range []api.Credit{
		{}, {Room: 257}, {Room: 257, Spent: 257}, {Room: -1, Spent: -1}, {Room: 5, Spent: -1}, {Room: 5, Spent: 6},
		{Room: 5, Epoch: -1}, {Room: 5, Spent: 5, Epoch: -1}, {Room: 5, Epoch: last + 1}, {Room: 5, Spent: 5, Epoch: last + 1},
		{Epoch: last}, {Room: 5, Spent: 6, Epoch: last},
	} {
		for _, d := range []deed{{kind: "Spend"}, {kind: "Reset"}, {"Back", c.Epoch}, {"Back", c.Epoch - 1}, {"Back", c.Epoch + 1}} {
			if got := do(c, d); got != (told{e: 131}) {
				t.Errorf("%v of %v: %+v", d, c, got)
			}
		}
	}
}

// P13.1, P13.2, rules 1 and 2: all triples of edges, against the chapter's words.
func TestAllEdges(t *testing.T) {
	for _, room := range edges {
		for _, spent := range edges {
			for _, epoch := range edges {
				everyDeed(t, api.Credit{Room: room, Spent: spent, Epoch: epoch})
			}
		}
	}
}

// P13.1, P13.2: every account of each room, around each edge of what is spent.
func TestAllAccounts(t *testing.T) {
	for room := -2; room <= 259; room++ {
		for spent := -2; spent <= 259; spent++ {
			everyDeed(t, api.Credit{Room: room, Spent: spent, Epoch: (room + 2) % 3})
		}
	}
}

// everyDeed does every deed to an account, Back with its epoch, those beside it and edges.
func everyDeed(t *testing.T, c api.Credit) {
	t.Helper()
	for _, kind := range kinds {
		for _, epoch := range []int{c.Epoch, c.Epoch - 1, c.Epoch + 1, 0, -1, last} {
			tells(t, c, deed{kind, epoch})
		}
	}
}
