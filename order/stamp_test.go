package order_test

import (
	"math"
	"testing"

	"rampart/api"
	"rampart/order"
)

// P7.3: stamps that differ in Tick alone, in Step alone, in both; the greatest and least ints, whose differences are no ints.
func TestCompare(t *testing.T) {
	for _, c := range []struct {
		a, b api.Stamp
		want int
	}{
		{api.Stamp{}, api.Stamp{}, 0},
		{api.Stamp{Tick: 3, Step: 1}, api.Stamp{Tick: 3, Step: 1}, 0},
		{api.Stamp{Tick: 2, Step: 5}, api.Stamp{Tick: 3, Step: 5}, -1},
		{api.Stamp{Tick: 3, Step: 1}, api.Stamp{Tick: 3, Step: 2}, -1},
		{api.Stamp{Tick: 2, Step: 9}, api.Stamp{Tick: 3, Step: 1}, -1},
		{api.Stamp{Tick: 2, Step: 1}, api.Stamp{Tick: 3, Step: 9}, -1},
		{api.Stamp{Tick: -1, Step: 0}, api.Stamp{Tick: 0, Step: -1}, -1},
		{api.Stamp{Tick: 0, Step: -1}, api.Stamp{Tick: 0, Step: 0}, -1},
		{api.Stamp{Tick: math.MinInt, Step: 0}, api.Stamp{Tick: math.MaxInt, Step: 0}, -1},
		{api.Stamp{Tick: 0, Step: math.MinInt}, api.Stamp{Tick: 0, Step: math.MaxInt}, -1},
		{api.Stamp{Tick: math.MinInt, Step: math.MaxInt}, api.Stamp{Tick: 1, Step: math.MinInt}, -1},
		{api.Stamp{Tick: math.MinInt, Step: math.MinInt}, api.Stamp{Tick: math.MinInt, Step: math.MinInt}, 0},
	} {
		if got := order.Compare(c.a, c.b); got != c.want {
			t.Errorf("Compare(%v, %v) = %d", c.a, c.b, got)
		}
		if got := order.Compare(c.b, c.a); got != -c.want {
			t.Errorf("Compare(%v, %v) = %d", c.b, c.a, got)
		}
	}
	l := someStamps()
	for _, a := range l {
		for _, b := range l {
			if got, want := order.Compare(a, b), plainCompare(a, b); got != want {
				t.Errorf("Compare(%v, %v) = %d, want %d", a, b, got, want)
			}
		}
	}
}

// P7.4: the chapter's numbers, and those at the bounds.
func TestNumber(t *testing.T) {
	for _, c := range []struct {
		tick, step, budget int
		want               uint64
		e                  api.Errno
	}{
		{3, 1, 5, 16, 0}, {0, 0, 1, 0, 0}, {0, 0, 16, 0, 0}, {0, 15, 16, 15, 0}, {1, 0, 16, 16, 0}, {7, 0, 1, 7, 0},
		{1 << 20, 0, 1, 1 << 20, 0}, {1 << 20, 0, 16, 1 << 24, 0}, {1 << 20, 15, 16, 1<<24 + 15, 0}, {1<<20 - 1, 4, 5, 5<<20 - 1, 0},
		{3, 1, -1, 0, 70}, {3, 1, 0, 0, 70}, {3, 1, 17, 0, 70}, {0, 0, 0, 0, 70}, {0, 0, -1, 0, 70}, {0, 0, 17, 0, 70}, {0, -2, -1, 0, 70},
		{-1, 0, 5, 0, 70}, {-1, 4, 5, 0, 70}, {1<<20 + 1, 0, 5, 0, 70}, {1<<20 + 1, 4, 5, 0, 70},
		{3, -1, 5, 0, 70}, {0, -1, 5, 0, 70}, {3, 5, 5, 0, 70}, {3, 6, 5, 0, 70}, {0, 1, 1, 0, 70}, {0, 16, 16, 0, 70}, {3, 4, 5, 19, 0},
		{-1, -1, 0, 0, 70}, {1<<20 + 1, 17, 17, 0, 70}, {math.MinInt, math.MinInt, math.MinInt, 0, 70}, {math.MaxInt, math.MaxInt, math.MaxInt, 0, 70},
	} {
		s := api.Stamp{Tick: c.tick, Step: c.step}
		if n, e := order.Number(s, c.budget); n != c.want || e != c.e {
			t.Errorf("Number(%v, %d) = %d, %d, want %d, %d", s, c.budget, n, e, c.want, c.e)
		}
	}
}

// P7.4, rules 1, 2 and 7: stamps and budgets of all sorts.
func TestNumberAll(t *testing.T) {
	l := someStamps()
	for tick := range 3 {
		for step := -1; step <= 17; step++ {
			l = append(l, api.Stamp{Tick: tick, Step: step}, api.Stamp{Tick: 1<<20 - 1 + tick, Step: step})
		}
	}
	for _, budget := range budgets() {
		for _, s := range l {
			n, e := order.Number(s, budget)
			if want, f := plainNumber(s, budget); n != want || e != f {
				t.Errorf("Number(%v, %d) = %d, %d, want %d, %d", s, budget, n, e, want, f)
			}
		}
	}
}

// budgets are all that may be, some beside them, and ints of all sorts.
func budgets() []int {
	l := someInts()
	for b := -3; b <= 33; b++ {
		l = append(l, b)
	}
	return l
}

// P7.4: the last tick's numbers have stamps, the next one's have none, whatever the budget; and numbers that are no ints.
func TestStamp(t *testing.T) {
	for _, c := range []struct {
		n      uint64
		budget int
		want   api.Stamp
		e      api.Errno
	}{
		{16, 5, api.Stamp{Tick: 3, Step: 1}, 0}, {0, 1, api.Stamp{}, 0}, {0, 16, api.Stamp{}, 0}, {15, 16, api.Stamp{Step: 15}, 0},
		{1 << 20, 1, api.Stamp{Tick: 1 << 20}, 0}, {1<<20 + 1, 1, api.Stamp{}, 70},
		{1<<24 + 15, 16, api.Stamp{Tick: 1 << 20, Step: 15}, 0}, {1<<24 + 16, 16, api.Stamp{}, 70},
		{16, -1, api.Stamp{}, 70}, {16, 0, api.Stamp{}, 70}, {16, 17, api.Stamp{}, 70}, {0, 0, api.Stamp{}, 70}, {0, -1, api.Stamp{}, 70},
		{full, 1, api.Stamp{}, 70}, {full, 16, api.Stamp{}, 70}, {full, 0, api.Stamp{}, 70}, {1 << 63, 1, api.Stamp{}, 70}, {1 << 63, 16, api.Stamp{}, 70}, {1<<63 + 3, 5, api.Stamp{}, 70}, {1<<32 + 3, 5, api.Stamp{}, 70},
	} {
		if s, e := order.Stamp(c.n, c.budget); s != c.want || e != c.e {
			t.Errorf("Stamp(%d, %d) = %v, %d, want %v, %d", c.n, c.budget, s, e, c.want, c.e)
		}
	}
	for _, budget := range budgets() {
		last := uint64(1<<20) * uint64(budget)
		for _, n := range append(someNumbers(), last-1, last, last+uint64(budget)-1, last+uint64(budget), last+uint64(budget)+1) {
			s, e := order.Stamp(n, budget)
			if want, f := plainStamp(n, budget); s != want || e != f {
				t.Errorf("Stamp(%d, %d) = %v, %d, want %v, %d", n, budget, s, e, want, f)
			}
		}
	}
}

// P7.7: of one budget the numbers of stamps, in their order, are 0, 1, 2 and so on; Stamp of Number is the stamp.
func TestNumbersInOrder(t *testing.T) {
	for budget := 1; budget <= 16; budget++ {
		n := uint64(0)
		for tick := 0; tick <= 1<<20; tick++ {
			if tick == 300 { // those between are alike, and many
				tick = 1<<20 - 300
				n = uint64(tick * budget)
			}
			for step := range budget {
				s := api.Stamp{Tick: tick, Step: step}
				if x, e := order.Number(s, budget); x != n || e != 0 {
					t.Errorf("Number(%v, %d) = %d, %d, want %d", s, budget, x, e, n)
				}
				if x, e := order.Stamp(n, budget); x != s || e != 0 {
					t.Errorf("Stamp(%d, %d) = %v, %d, want %v", n, budget, x, e, s)
				}
				n++
			}
		}
	}
}

// P7.7: any two stamps of one budget are in the order of their numbers.
func TestOrderOfNumbers(t *testing.T) {
	for budget := 1; budget <= 16; budget++ {
		var l []api.Stamp
		for _, tick := range []int{0, 1, 2, 65535, 65536, 1<<20 - 1, 1 << 20} {
			for step := range budget {
				l = append(l, api.Stamp{Tick: tick, Step: step})
			}
		}
		for _, a := range l {
			for _, b := range l {
				x, _ := order.Number(a, budget)
				y, _ := order.Number(b, budget)
				if c := order.Compare(a, b); (c < 0) != (x < y) || (c == 0) != (x == y) {
					t.Errorf("budget %d: Compare(%v, %v) = %d, of %d and %d", budget, a, b, c, x, y)
				}
			}
		}
	}
}
