package order_test

import (
	"math"
	"slices"
	"testing"

	"rampart/order"
)

// P7.1: the distance at the edges, over 2^64 - 1 to 0 and back, and around 2^63, where the sign turns.
func TestAhead(t *testing.T) {
	for _, c := range []struct {
		from, to uint64
		want     int64
	}{
		{0, 0, 0}, {5, 5, 0}, {full, full, 0}, {1 << 63, 1 << 63, 0},
		{0, 1, 1}, {1, 0, -1}, {7, 3, -4}, {3, 7, 4},
		{full, 0, 1}, {0, full, -1}, {full, 1, 2}, {1, full, -2}, {full - 1, full, 1}, {full, full - 1, -1},
		{0, 1<<63 - 1, math.MaxInt64}, {0, 1 << 63, math.MinInt64}, {0, 1<<63 + 1, -math.MaxInt64},
		{1<<63 - 1, 0, -math.MaxInt64}, {1 << 63, 0, math.MinInt64}, {1<<63 + 1, 0, math.MaxInt64},
		{full, 1<<63 - 2, math.MaxInt64}, {full, 1<<63 - 1, math.MinInt64}, {full, 1 << 63, -math.MaxInt64},
		{1<<63 - 1, 1 << 63, 1}, {1 << 63, 1<<63 - 1, -1},
	} {
		if d := order.Ahead(c.from, c.to); d != c.want {
			t.Errorf("Ahead(%d, %d) = %d, want %d", c.from, c.to, d, c.want)
		}
		if b := order.Before(c.from, c.to); b != (c.want > 0) {
			t.Errorf("Before(%d, %d) = %v, at the distance %d", c.from, c.to, b, c.want)
		}
	}
}

// P7.1, rule 7: distances are cut as the chapter says, at all pairs of numbers.
func TestAheadAll(t *testing.T) {
	for _, from := range someNumbers() {
		for _, to := range someNumbers() {
			want := plainAhead(from, to)
			if d := order.Ahead(from, to); d != want {
				t.Errorf("Ahead(%d, %d) = %d, want %d", from, to, d, want)
			}
			if b := order.Before(from, to); b != (want > 0) {
				t.Errorf("Before(%d, %d) = %v, want %v", from, to, b, want > 0)
			}
		}
	}
}

// P7.1: of a number and itself none stands ahead, nor of two that are 2^63 apart.
func TestBeforeNeither(t *testing.T) {
	for _, x := range someNumbers() {
		for _, apart := range []uint64{0, 1 << 63} {
			if order.Before(x, x+apart) || order.Before(x+apart, x) {
				t.Errorf("of %d and %d one stands ahead", x, x+apart)
			}
		}
	}
}

// P7.1: the numbers from low on, without high; none, where they are alike; nearly all, where high is below low; and over the wrap.
func TestWithin(t *testing.T) {
	for _, c := range []struct {
		low, x, high uint64
		want         bool
	}{
		{3, 2, 6, false}, {3, 3, 6, true}, {3, 5, 6, true}, {3, 6, 6, false}, {3, 7, 6, false},
		{5, 5, 5, false}, {5, 4, 5, false}, {5, 6, 5, false}, {0, 0, 0, false}, {full, full, full, false}, {0, full, 0, false},
		{6, 2, 3, true}, {6, 3, 3, false}, {6, 4, 3, false}, {6, 5, 3, false}, {6, 6, 3, true}, {6, 7, 3, true}, {6, full, 3, true}, {6, 0, 3, true},
		{1, 0, 0, false}, {1, 1, 0, true}, {1, full, 0, true},
		{full - 1, full - 2, 2, false}, {full - 1, full - 1, 2, true}, {full - 1, full, 2, true}, {full - 1, 0, 2, true}, {full - 1, 1, 2, true}, {full - 1, 2, 2, false},
		{full, full, 0, true}, {full, 0, 0, false},
		{0, 0, full, true}, {0, full - 1, full, true}, {0, full, full, false},
		{0, 1<<63 - 1, 1 << 63, true}, {0, 1 << 63, 1 << 63, false}, {0, 1 << 63, 1<<63 + 1, true}, {0, 1<<63 + 1, 1<<63 + 1, false},
	} {
		if w := order.Within(c.low, c.x, c.high); w != c.want {
			t.Errorf("Within(%d, %d, %d) = %v", c.low, c.x, c.high, w)
		}
	}
}

// P7.1, rule 7: all triples of numbers.
func TestWithinAll(t *testing.T) {
	l := someNumbers()
	for _, low := range l {
		for _, x := range l {
			for _, high := range l {
				if w, want := order.Within(low, x, high), plainWithin(low, x, high); w != want {
					t.Errorf("Within(%d, %d, %d) = %v, want %v", low, x, high, w, want)
				}
			}
		}
	}
}

// P7.1: Within is to be met as one counts up, from low to high.
func TestWithinCounted(t *testing.T) {
	for _, low := range []uint64{0, 9, 1<<63 - 4, full - 5, full} {
		for count := range uint64(12) {
			met := map[uint64]bool{}
			for i := range count {
				met[low+i] = true
			}
			for x := low - 3; x != low+16; x++ {
				if w := order.Within(low, x, low+count); w != met[x] {
					t.Errorf("Within(%d, %d, %d) = %v", low, x, low+count, w)
				}
			}
		}
	}
}

// P7.5: a number and one more: the first stands ahead, not the other one; and one less.
func TestOneMore(t *testing.T) {
	for _, x := range someNumbers() {
		if order.Ahead(x, x+1) != 1 || !order.Before(x, x+1) || order.Before(x+1, x) {
			t.Errorf("%d and one more: %d", x, order.Ahead(x, x+1))
		}
		if order.Ahead(x, x-1) != -1 || order.Before(x, x-1) || !order.Before(x-1, x) {
			t.Errorf("%d and one less: %d", x, order.Ahead(x, x-1))
		}
	}
}

// P7.5: to add the same to both changes no distance.
func TestAddedToBoth(t *testing.T) {
	l := someNumbers()
	for _, a := range l {
		for _, b := range l {
			d, before := order.Ahead(a, b), order.Before(a, b)
			for _, x := range l {
				if order.Ahead(a+x, b+x) != d || order.Before(a+x, b+x) != before {
					t.Errorf("%d and %d: %d; with %d: %d", a, b, d, x, order.Ahead(a+x, b+x))
				}
			}
		}
	}
}

// P7.5: numbers that are at most 2^62 apart are in a total order, that in which they are counted, wherever they begin.
func TestTotalOrder(t *testing.T) {
	offsets := []uint64{0, 1, 2, 63, 1 << 32, 1<<61 - 1, 1 << 61, 1<<62 - 2, 1<<62 - 1, 1 << 62}
	d := dice(75)
	for range 20 {
		offsets = append(offsets, d.next()%(1<<62+1))
	}
	slices.Sort(offsets)
	for _, start := range append(someNumbers(), full-1<<61, full-1<<62) {
		for i, a := range offsets {
			for k, b := range offsets {
				if got := order.Before(start+a, start+b); got != (i < k) {
					t.Errorf("from %d on: Before(%d, %d) = %v", start, a, b, got)
				}
			}
		}
	}
}
