package lattice_test

import (
	"math"
	"slices"
	"testing"

	"rampart/api"
	"rampart/bits"
	"rampart/lattice"
)

const full = math.MaxUint64

// to tells by worth whether a flows to b, without the packages that are tested.
func to(f []uint64, a, b int) bool { return f[a]/(1<<uint(b))%2 == 1 }

// setOf is the set of the labels for which something holds.
func setOf(n int, holds func(int) bool) uint64 {
	s := uint64(0)
	for i := range n {
		if holds(i) {
			s += 1 << i
		}
	}
	return s
}

// all tells whether something holds for all labels.
func all(n int, holds func(int) bool) bool {
	return setOf(n, holds) == setOf(n, func(int) bool { return true })
}

// plainPolicy goes by the word's meaning.
func plainPolicy(f []uint64) bool {
	n := len(f)
	return all(n, func(a int) bool {
		return to(f, a, a) && all(n, func(b int) bool {
			return all(n, func(c int) bool { return !to(f, a, b) || !to(f, b, c) || to(f, a, c) })
		})
	})
}

// plainJoins goes by the word's meaning.
func plainJoins(f []uint64, a, b int) uint64 {
	n := len(f)
	upper := func(x int) bool { return to(f, a, x) && to(f, b, x) }
	return setOf(n, func(x int) bool {
		return upper(x) && all(n, func(y int) bool { return !upper(y) || to(f, x, y) })
	})
}

// plainMeets goes by the word's meaning.
func plainMeets(f []uint64, a, b int) uint64 {
	n := len(f)
	lower := func(x int) bool { return to(f, x, a) && to(f, x, b) }
	return setOf(n, func(x int) bool {
		return lower(x) && all(n, func(y int) bool { return !lower(y) || to(f, y, x) })
	})
}

// plainLattice goes through each two labels.
func plainLattice(f []uint64) (api.Flow, bool) {
	for a := range f {
		for b := range f {
			if plainJoins(f, a, b) == 0 || plainMeets(f, a, b) == 0 {
				return api.Flow{From: a, To: b}, false
			}
		}
	}
	return api.Flow{}, true
}

// plainBelow tells whether a is below b.
func plainBelow(f []uint64, a, b int) bool { return to(f, a, b) && !to(f, b, a) }

// plainOrder begins anew from the least label each time.
func plainOrder(f []uint64) []int {
	var l []int
	for len(l) < len(f) {
		for a := range f {
			ready := all(len(f), func(b int) bool { return slices.Contains(l, b) || !plainBelow(f, b, a) })
			if ready && !slices.Contains(l, a) {
				l = append(l, a)
				break
			}
		}
	}
	return l
}

// relation is the one on n labels whose flows are the bits of code, n times n of them.
func relation(n int, code uint64) []uint64 {
	f := make([]uint64, n)
	for i := range f {
		f[i] = code >> (i * n) & (1<<n - 1)
	}
	return f
}

// scramble gives the next number of a fixed row, so that a test that fails does so each time.
func scramble(x uint64) uint64 {
	x ^= x << 13
	x ^= x >> 7
	return x ^ x<<17
}

// mixed is flows of n labels out of a fixed row of numbers, there about once in 2^thin.
func mixed(n, thin int, seed uint64) []uint64 {
	f := make([]uint64, n)
	x := seed
	for i := range f {
		f[i] = 1<<n - 1
		for range thin {
			x = scramble(x)
			f[i] &= x
		}
	}
	return f
}

// same is n rows of one set.
func same(n int, row uint64) []uint64 { return slices.Repeat([]uint64{row}, n) }

// apart is n labels, none of which flows to another one.
func apart(n int) []uint64 {
	f := make([]uint64, n)
	for i := range f {
		f[i] = 1 << i
	}
	return f
}

// rising is n labels, each of which flows to all behind it.
func rising(n int) []uint64 {
	f := make([]uint64, n)
	for i := range f {
		f[i] = 1<<n - 1<<i
	}
	return f
}

// falling is n labels, each of which flows to all ahead of it.
func falling(n int) []uint64 {
	f := make([]uint64, n)
	for i := range f {
		f[i] = 2<<i - 1
	}
	return f
}

// someFlows are flows of 1 to 16 labels, policies and others: all of up to 3 labels, and more.
func someFlows() [][]uint64 {
	var l [][]uint64
	for n := 1; n <= 3; n++ {
		for code := range uint64(1) << (n * n) {
			l = append(l, relation(n, code))
		}
	}
	for n := 4; n <= 16; n++ {
		l = append(l, make([]uint64, n), same(n, 1<<n-1), apart(n), rising(n), falling(n))
		for thin := 1; thin <= 5; thin++ {
			for seed := range uint64(4) {
				l = append(l, mixed(n, thin, uint64(n*100+thin)*10+seed+1))
			}
		}
	}
	return l
}

// somePolicies are all of up to 4 labels, and many of up to 16.
func somePolicies(t *testing.T) [][]uint64 {
	t.Helper()
	var l [][]uint64
	for n := 1; n <= 4; n++ {
		for code := range uint64(1) << (n * n) {
			if f := relation(n, code); plainPolicy(f) {
				l = append(l, f)
			}
		}
	}
	if len(l) != 1+4+29+355 { // so many there are
		t.Fatalf("%d policies of up to 4 labels", len(l))
	}
	for _, f := range someFlows() {
		if c, e := bits.Closure(f); e == api.OK && len(c) > 4 {
			l = append(l, c)
		}
	}
	return l
}

// bad is flows that are no policy, with Check's answer.
type bad struct {
	f []uint64
	e api.Errno
}

// someBad are flows that no call but Check takes; but for ErrPolicy Missing does not take them either.
func someBad() []bad {
	return []bad{
		{nil, api.ErrArg},
		{[]uint64{}, api.ErrArg},
		{make([]uint64, 17), api.ErrMany},
		{apart(17), api.ErrMany},
		{same(17, full), api.ErrMany},
		{make([]uint64, 64), api.ErrMany},
		{make([]uint64, 65), api.ErrMany},
		{same(1000, full), api.ErrMany},
		{[]uint64{2}, api.ErrBit},
		{[]uint64{3}, api.ErrBit},
		{[]uint64{1 << 63}, api.ErrBit},
		{[]uint64{0, 4}, api.ErrBit},
		{[]uint64{4, 0}, api.ErrBit},
		{append(apart(15), 1<<16), api.ErrBit},
		{same(16, full), api.ErrBit},
		{[]uint64{0}, api.ErrPolicy},
		{[]uint64{1, 0}, api.ErrPolicy},
		{[]uint64{2, 1}, api.ErrPolicy},
		{[]uint64{3, 6, 4}, api.ErrPolicy},
		{[]uint64{1, 3, 6}, api.ErrPolicy},
		{make([]uint64, 16), api.ErrPolicy},
		{append(apart(15), 0), api.ErrPolicy},
	}
}

// P2.1

func TestCheck(t *testing.T) {
	for _, c := range someBad() {
		if e := lattice.Check(c.f); e != c.e {
			t.Errorf("Check(%v) = %d, want %d", c.f, e, c.e)
		}
	}
	for _, f := range someFlows() {
		want := api.ErrPolicy
		if plainPolicy(f) {
			want = api.OK
		}
		if e := lattice.Check(f); e != want {
			t.Errorf("Check(%v) = %d, want %d", f, e, want)
		}
	}
	for _, f := range [][]uint64{{1}, {3, 2}, {3, 3}, {7, 7, 4}, apart(16), rising(16), falling(16), same(16, 1<<16-1)} {
		if e := lattice.Check(f); e != api.OK {
			t.Errorf("Check(%v) = %d", f, e)
		}
	}
	if api.ErrPolicy != 20 || api.ErrMany != 3 || api.ErrArg != 1 || api.ErrRange != 5 || api.MaxLabels != 16 {
		t.Error("a number of package api is another one")
	}
}

func TestMissing(t *testing.T) {
	for _, c := range []struct {
		f []uint64
		l []api.Flow
	}{
		{[]uint64{1}, nil},
		{[]uint64{0}, []api.Flow{{From: 0, To: 0}}},
		{[]uint64{3, 6, 4}, []api.Flow{{From: 0, To: 2}}},
		{[]uint64{0, 0}, []api.Flow{{From: 0, To: 0}, {From: 1, To: 1}}},
		{[]uint64{2, 1}, []api.Flow{{From: 0, To: 0}, {From: 1, To: 1}}},
		{[]uint64{2, 4, 1}, []api.Flow{{From: 0, To: 0}, {From: 0, To: 2}, {From: 1, To: 0}, {From: 1, To: 1}, {From: 2, To: 1}, {From: 2, To: 2}}},
		{falling(16), nil},
	} {
		if l, e := lattice.Missing(c.f); e != api.OK || !slices.Equal(l, c.l) {
			t.Errorf("Missing(%v) = %v, %d; want %v", c.f, l, e, c.l)
		}
	}
	for _, c := range someBad() {
		l, e := lattice.Missing(c.f)
		if c.e == api.ErrPolicy {
			if e != api.OK || len(l) == 0 {
				t.Errorf("Missing(%v) = %v, %d", c.f, l, e)
			}
		} else if e != c.e || len(l) != 0 {
			t.Errorf("Missing(%v) = %v, %d; want %d", c.f, l, e, c.e)
		}
	}
}

func TestMissingInOrder(t *testing.T) {
	for _, f := range someFlows() {
		l, e := lattice.Missing(f)
		if e != api.OK {
			t.Fatalf("Missing(%v): %d", f, e)
		}
		for i, x := range l {
			if i > 0 && (l[i-1].From > x.From || l[i-1].From == x.From && l[i-1].To >= x.To) {
				t.Errorf("Missing(%v) = %v", f, l)
			}
			if to(f, x.From, x.To) {
				t.Errorf("Missing(%v): %v is there", f, x)
			}
		}
	}
}

// P2.2

func TestFlowsJoinsMeets(t *testing.T) {
	for _, f := range somePolicies(t) {
		for a := range f {
			for b := range f {
				if is, e := lattice.Flows(f, a, b); e != api.OK || is != to(f, a, b) {
					t.Errorf("Flows(%v, %d, %d) = %t, %d", f, a, b, is, e)
				}
				if s, e := lattice.Joins(f, a, b); e != api.OK || s != plainJoins(f, a, b) {
					t.Errorf("Joins(%v, %d, %d) = %b, %d", f, a, b, s, e)
				}
				if s, e := lattice.Meets(f, a, b); e != api.OK || s != plainMeets(f, a, b) {
					t.Errorf("Meets(%v, %d, %d) = %b, %d", f, a, b, s, e)
				}
			}
		}
	}
}

func TestBoundsByHand(t *testing.T) {
	bow := []uint64{13, 14, 4, 8} // 0 and 1 flow to 2 and to 3: bounds, and no least one
	for _, c := range []struct {
		f           []uint64
		a, b        int
		join, meets uint64
	}{
		{[]uint64{1}, 0, 0, 1, 1},
		{[]uint64{3, 2}, 0, 1, 2, 1},
		{[]uint64{3, 2}, 1, 0, 2, 1},
		{[]uint64{3, 3}, 0, 0, 3, 3},
		{[]uint64{7, 7, 4}, 0, 1, 3, 3},
		{[]uint64{7, 7, 4}, 1, 2, 4, 3},
		{[]uint64{1, 7, 7}, 0, 2, 1, 6},
		{apart(16), 0, 15, 0, 0},
		{rising(16), 0, 15, 1 << 15, 1},
		{same(16, 1<<16-1), 15, 3, 1<<16 - 1, 1<<16 - 1},
		{bow, 0, 1, 0, 0},
		{bow, 2, 3, 0, 0},
		{bow, 0, 2, 4, 1},
	} {
		if s, e := lattice.Joins(c.f, c.a, c.b); e != api.OK || s != c.join {
			t.Errorf("Joins(%v, %d, %d) = %b, %d; want %b", c.f, c.a, c.b, s, e, c.join)
		}
		if s, e := lattice.Meets(c.f, c.a, c.b); e != api.OK || s != c.meets {
			t.Errorf("Meets(%v, %d, %d) = %b, %d; want %b", c.f, c.a, c.b, s, e, c.meets)
		}
	}
}

// ofTwo asks all calls that take two labels, and wants one error and zeros.
func ofTwo(t *testing.T, f []uint64, a, b int, want api.Errno) {
	t.Helper()
	if is, e := lattice.Flows(f, a, b); e != want || is {
		t.Errorf("Flows(%v, %d, %d) = %t, %d; want %d", f, a, b, is, e, want)
	}
	if s, e := lattice.Joins(f, a, b); e != want || s != 0 {
		t.Errorf("Joins(%v, %d, %d) = %d, %d; want %d", f, a, b, s, e, want)
	}
	if s, e := lattice.Meets(f, a, b); e != want || s != 0 {
		t.Errorf("Meets(%v, %d, %d) = %d, %d; want %d", f, a, b, s, e, want)
	}
}

func TestNoLabels(t *testing.T) {
	for _, f := range [][]uint64{{1}, {3, 3}, {7, 7, 4}, rising(16), same(16, 1<<16-1)} {
		for _, x := range []int{-1, len(f), len(f) + 1, 16, 64, -64, math.MinInt, math.MaxInt} {
			ofTwo(t, f, x, 0, api.ErrRange)
			ofTwo(t, f, 0, x, api.ErrRange)
			ofTwo(t, f, x, x, api.ErrRange)
			ofTwo(t, f, len(f)-1, x, api.ErrRange)
		}
	}
	for _, c := range someBad() { // Check's error stands ahead of ErrRange
		for _, x := range []int{-1, 0, 1, 17, math.MinInt, math.MaxInt} {
			ofTwo(t, c.f, x, 0, c.e)
			ofTwo(t, c.f, 0, x, c.e)
		}
	}
}

// P2.3

func TestLattice(t *testing.T) {
	yes, no := 0, 0
	for _, f := range somePolicies(t) {
		want, ok := plainLattice(f)
		if ok {
			yes++
		} else {
			no++
		}
		if x, is, e := lattice.Lattice(f); e != api.OK || is != ok || x != want {
			t.Errorf("Lattice(%v) = %v, %t, %d; want %v, %t", f, x, is, e, want, ok)
		}
	}
	if yes < 10 || no < 10 {
		t.Errorf("%d lattices and %d others are too few", yes, no)
	}
	for _, c := range []struct {
		f  []uint64
		x  api.Flow
		ok bool
	}{
		{[]uint64{1}, api.Flow{}, true},
		{[]uint64{3, 3}, api.Flow{}, true},
		{[]uint64{1, 2}, api.Flow{From: 0, To: 1}, false},
		{[]uint64{5, 6, 4}, api.Flow{From: 0, To: 1}, false},           // a join, and no meet
		{[]uint64{7, 2, 4}, api.Flow{From: 1, To: 2}, false},           // a meet, and no join
		{[]uint64{15, 14, 4, 8}, api.Flow{From: 2, To: 3}, false},      // not the first two
		{[]uint64{1, 3, 5, 9}, api.Flow{From: 1, To: 2}, false},        // the first of many
		{[]uint64{31, 30, 4, 30, 16}, api.Flow{From: 2, To: 4}, false}, // equals among them
		{rising(16), api.Flow{}, true},
		{apart(16), api.Flow{From: 0, To: 1}, false},
	} {
		if x, ok, e := lattice.Lattice(c.f); e != api.OK || ok != c.ok || x != c.x {
			t.Errorf("Lattice(%v) = %v, %t, %d; want %v, %t", c.f, x, ok, e, c.x, c.ok)
		}
	}
}

func TestClasses(t *testing.T) {
	for _, f := range somePolicies(t) {
		var want []uint64
		for a := range f {
			s := setOf(len(f), func(b int) bool { return to(f, a, b) && to(f, b, a) })
			if !slices.Contains(want, s) {
				want = append(want, s)
			}
		}
		if l, e := lattice.Classes(f); e != api.OK || !slices.Equal(l, want) {
			t.Errorf("Classes(%v) = %v, %d; want %v", f, l, e, want)
		}
	}
	for _, c := range []struct{ f, l []uint64 }{
		{[]uint64{1}, []uint64{1}},
		{[]uint64{7, 7, 4}, []uint64{3, 4}},
		{[]uint64{1, 7, 7}, []uint64{1, 6}},
		{[]uint64{5, 7, 5}, []uint64{5, 2}},
		{apart(16), apart(16)},
		{rising(16), apart(16)},
		{same(16, 1<<16-1), []uint64{1<<16 - 1}},
	} {
		if l, e := lattice.Classes(c.f); e != api.OK || !slices.Equal(l, c.l) {
			t.Errorf("Classes(%v) = %v, %d; want %v", c.f, l, e, c.l)
		}
	}
}

func TestOrder(t *testing.T) {
	for _, f := range somePolicies(t) {
		want := plainOrder(f)
		if l, e := lattice.Order(f); e != api.OK || !slices.Equal(l, want) {
			t.Errorf("Order(%v) = %v, %d; want %v", f, l, e, want)
		}
	}
	for _, c := range []struct {
		f []uint64
		l []int
	}{
		{[]uint64{1}, []int{0}},
		{[]uint64{3, 3}, []int{0, 1}},
		{[]uint64{1, 3, 7}, []int{2, 1, 0}},
		{[]uint64{1, 2, 5}, []int{1, 2, 0}},        // 0 waits for 2, and comes then
		{[]uint64{1, 7, 7}, []int{1, 2, 0}},        // equal ones do not wait for one another
		{[]uint64{1, 2, 5, 10}, []int{2, 0, 3, 1}}, // 0 stands ahead of 3, once it may
		{falling(16), []int{15, 14, 13, 12, 11, 10, 9, 8, 7, 6, 5, 4, 3, 2, 1, 0}},
		{apart(16), []int{0, 1, 2, 3, 4, 5, 6, 7, 8, 9, 10, 11, 12, 13, 14, 15}},
	} {
		if l, e := lattice.Order(c.f); e != api.OK || !slices.Equal(l, c.l) {
			t.Errorf("Order(%v) = %v, %d; want %v", c.f, l, e, c.l)
		}
	}
}

func TestNoPolicy(t *testing.T) {
	for _, c := range someBad() {
		if x, ok, e := lattice.Lattice(c.f); e != c.e || ok || x != (api.Flow{}) {
			t.Errorf("Lattice(%v) = %v, %t, %d; want %d", c.f, x, ok, e, c.e)
		}
		if l, e := lattice.Classes(c.f); e != c.e || len(l) != 0 {
			t.Errorf("Classes(%v) = %v, %d; want %d", c.f, l, e, c.e)
		}
		if l, e := lattice.Order(c.f); e != c.e || len(l) != 0 {
			t.Errorf("Order(%v) = %v, %d; want %d", c.f, l, e, c.e)
		}
	}
}
