package bits_test

import (
	"math"
	"slices"
	"testing"

	"rampart/api"
	"rampart/bits"
)

const full = math.MaxUint64

// someSets are sets of all sorts: none, single ones at the edges, all, and mixed ones.
func someSets() []uint64 {
	l := []uint64{0, 1, 2, 9, 1 << 62, 1 << 63, 1<<63 | 1, full, full >> 1, full - 1, 0xaaaaaaaaaaaaaaaa, 0x5555555555555555}
	x := uint64(88172645463325252)
	for range 200 {
		x = scramble(x)
		l = append(l, x, x&scramble(x^full))
	}
	return l
}

// scramble gives the next number of a fixed row, so that a test that fails does so each time.
func scramble(x uint64) uint64 {
	x ^= x << 13
	x ^= x >> 7
	return x ^ x<<17
}

// bit asks for one bit by worth, without the package that is tested.
func bit(s uint64, i int) bool { return s/(1<<uint(i))%2 == 1 }

// plainList goes through all bits by worth.
func plainList(s uint64) []int {
	var l []int
	for i := 0; i < 64; i++ {
		if bit(s, i) {
			l = append(l, i)
		}
	}
	return l
}

// P1.1

func TestOf(t *testing.T) {
	for _, c := range []struct {
		l []int
		s uint64
		e api.Errno
	}{
		{nil, 0, 0},
		{[]int{}, 0, 0},
		{[]int{0}, 1, 0},
		{[]int{63}, 1 << 63, 0},
		{[]int{3, 0, 3}, 9, 0},
		{[]int{63, 0, 32, 31, 63}, 1<<63 | 1<<32 | 1<<31 | 1, 0},
		{[]int{-1}, 0, api.ErrBit},
		{[]int{64}, 0, api.ErrBit},
		{[]int{0, 1, 64}, 0, api.ErrBit},
		{[]int{-1, 0, 1}, 0, api.ErrBit},
		{[]int{0, math.MinInt, 1}, 0, api.ErrBit},
		{[]int{0, math.MaxInt, 1}, 0, api.ErrBit},
		{[]int{128}, 0, api.ErrBit},
		{[]int{-64}, 0, api.ErrBit},
	} {
		if s, e := bits.Of(c.l...); s != c.s || e != c.e {
			t.Errorf("Of(%v) = %d, %d; want %d, %d", c.l, s, e, c.s, c.e)
		}
	}
	if api.ErrBit != 10 {
		t.Errorf("ErrBit is %d", api.ErrBit)
	}
}

func TestOfList(t *testing.T) {
	for _, s := range someSets() {
		l := plainList(s)
		slices.Reverse(l)
		if x, e := bits.Of(append(l, l...)...); x != s || e != api.OK {
			t.Errorf("Of(%v twice) = %d, %d", l, x, e)
		}
	}
}

func TestListAndAll(t *testing.T) {
	for _, s := range someSets() {
		want := plainList(s)
		if l := bits.List(s); !slices.Equal(l, want) {
			t.Errorf("List(%d) = %v", s, l)
		}
		all := bits.All(s)
		for round := range 2 { // an iterator begins anew each time
			var l []int
			for i := range all {
				l = append(l, i)
			}
			if !slices.Equal(l, want) {
				t.Errorf("All(%d), round %d: %v", s, round, l)
			}
		}
	}
}

func TestAllLeftEarly(t *testing.T) {
	for _, s := range []uint64{1, 9, 1<<63 | 9, full} {
		want := plainList(s)
		for stop := range want {
			var l []int
			for i := range bits.All(s) {
				l = append(l, i)
				if len(l) == stop+1 {
					break
				}
			}
			if !slices.Equal(l, want[:stop+1]) {
				t.Errorf("All(%d), left behind %d: %v", s, stop, l)
			}
		}
	}
	asked := 0
	bits.All(full)(func(int) bool { asked++; return asked < 5 })
	if asked != 5 {
		t.Errorf("asked %d times, though it was to end at the fifth", asked)
	}
	bits.All(full)(nil) // does not panic
}

func TestAllWithin(t *testing.T) {
	all := bits.All(7)
	var l []int
	for i := range all {
		for j := range all {
			l = append(l, 10*i+j)
		}
	}
	if !slices.Equal(l, []int{0, 1, 2, 10, 11, 12, 20, 21, 22}) {
		t.Errorf("one ranging within another one: %v", l)
	}
}

func TestHas(t *testing.T) {
	for _, s := range someSets() {
		for i := range 64 {
			if bits.Has(s, i) != bit(s, i) {
				t.Errorf("Has(%d, %d) = %v", s, i, bits.Has(s, i))
			}
		}
		for _, i := range []int{-1, 64, -64, 65, 127, 128, -63, math.MinInt, math.MaxInt} {
			if bits.Has(s, i) {
				t.Errorf("Has(%d, %d)", s, i)
			}
		}
	}
}

// P1.2

func TestSize(t *testing.T) {
	for _, s := range someSets() {
		if n := bits.Size(s); n != len(plainList(s)) {
			t.Errorf("Size(%d) = %d", s, n)
		}
	}
	if bits.Size(0) != 0 || bits.Size(full) != 64 {
		t.Errorf("Size of none and all: %d, %d", bits.Size(0), bits.Size(full))
	}
}

func TestRank(t *testing.T) {
	places := []int{math.MinInt, -65, -64, -63, 64, 65, 66, 127, 128, 1 << 40, math.MaxInt}
	for i := -2; i <= 66; i++ {
		places = append(places, i)
	}
	for _, s := range someSets() {
		for _, i := range places {
			want := 0
			for _, m := range plainList(s) {
				if m < i {
					want++
				}
			}
			if r := bits.Rank(s, i); r != want {
				t.Errorf("Rank(%d, %d) = %d, want %d", s, i, r, want)
			}
		}
	}
}

func TestNth(t *testing.T) {
	for _, s := range someSets() {
		l := plainList(s)
		for k, m := range l {
			if i, ok := bits.Nth(s, k); i != m || !ok {
				t.Errorf("Nth(%d, %d) = %d, %v; want %d", s, k, i, ok, m)
			}
		}
		for _, k := range []int{-1, -2, -64, math.MinInt, len(l), len(l) + 1, 64, 65, math.MaxInt} {
			if i, ok := bits.Nth(s, k); i != 0 || ok {
				t.Errorf("Nth(%d, %d) = %d, %v; want none", s, k, i, ok)
			}
		}
	}
}

// P1.5

func TestNumbers(t *testing.T) {
	for _, s := range someSets() {
		var l []int
		for k := range bits.Size(s) {
			i, ok := bits.Nth(s, k)
			if !ok {
				t.Errorf("Nth(%d, %d): none", s, k)
			}
			l = append(l, i)
		}
		if !slices.Equal(l, bits.List(s)) {
			t.Errorf("by Nth %v, by List %v", l, bits.List(s))
		}
		for i := range bits.All(s) {
			if m, ok := bits.Nth(s, bits.Rank(s, i)); m != i || !ok {
				t.Errorf("Nth(%d, Rank of %d) = %d, %v", s, i, m, ok)
			}
		}
	}
}
