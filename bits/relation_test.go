package bits_test

import (
	"math"
	"slices"
	"testing"

	"rampart/api"
	"rampart/bits"
)

// chain is n rows: each number comes to the next one.
func chain(n int) []uint64 {
	a := make([]uint64, n)
	for i := 0; i+1 < n; i++ {
		a[i] = 1 << (i + 1)
	}
	return a
}

// relation is the one on n members whose pairs are the bits of code, n times n of them.
func relation(n int, code uint64) []uint64 {
	a := make([]uint64, n)
	for i := range a {
		a[i] = code >> (i * n) & (1<<n - 1)
	}
	return a
}

// mixed is a relation on n members out of a fixed row of numbers, in which a pair is there about once in 2^thin.
func mixed(n, thin int, seed uint64) []uint64 {
	a := make([]uint64, n)
	x := seed
	for i := range a {
		a[i] = uint64(math.MaxUint64)
		for range thin {
			x = scramble(x)
			a[i] &= x
		}
		if n < 64 {
			a[i] &= 1<<n - 1
		}
	}
	return a
}

// someRelations are of all sizes from none to 64, thin and thick ones.
func someRelations() [][]uint64 {
	l := [][]uint64{nil, {}, {0}, {1}, chain(2), chain(3), chain(63), chain(64)}
	for n := 1; n <= 64; n += 7 {
		for thin := 1; thin <= 6; thin++ {
			l = append(l, mixed(n, thin, uint64(n*100+thin)))
		}
	}
	return l
}

// broken are rows that are no relation, with Check's answer.
func broken() []struct {
	a []uint64
	e api.Errno
} {
	return []struct {
		a []uint64
		e api.Errno
	}{
		{make([]uint64, 65), api.ErrMany},
		{make([]uint64, 1000), api.ErrMany},
		{slices.Repeat([]uint64{full}, 65), api.ErrMany},
		{[]uint64{2}, api.ErrBit},
		{[]uint64{1 << 63}, api.ErrBit},
		{[]uint64{full}, api.ErrBit},
		{[]uint64{0, 0, 8}, api.ErrBit},
		{[]uint64{8, 0, 0}, api.ErrBit},
		{append(make([]uint64, 62), 1<<63), api.ErrBit},
	}
}

// has tells whether each pair of b is one of a.
func has(a, b []uint64) bool {
	for i := range b {
		if b[i]&^a[i] != 0 {
			return false
		}
	}
	return true
}

// plainThen goes through all three members.
func plainThen(a, b []uint64) []uint64 {
	r := make([]uint64, len(a))
	for i := range a {
		for j := range a {
			for k := range a {
				if bit(a[i], j) && bit(b[j], k) {
					r[i] |= 1 << k
				}
			}
		}
	}
	return r
}

// plainReach walks on from i as long as something new is found.
func plainReach(a []uint64, i int) uint64 {
	s := uint64(1) << i
	for {
		next := s
		for j := range a {
			if bit(s, j) {
				next |= a[j]
			}
		}
		if next == s {
			return s
		}
		s = next
	}
}

// P1.3

func TestCheck(t *testing.T) {
	for _, a := range someRelations() {
		if e := bits.Check(a); e != api.OK {
			t.Errorf("Check(%v) = %d", a, e)
		}
	}
	for _, a := range [][]uint64{slices.Repeat([]uint64{full}, 64), append(make([]uint64, 63), 1<<63), {3, 3}} {
		if e := bits.Check(a); e != api.OK {
			t.Errorf("Check(%v) = %d", a, e)
		}
	}
	for _, c := range broken() {
		if e := bits.Check(c.a); e != c.e {
			t.Errorf("Check(%v) = %d, want %d", c.a, e, c.e)
		}
	}
}

func TestTurn(t *testing.T) {
	for _, a := range someRelations() {
		x, e := bits.Turn(a)
		if e != api.OK || len(x) != len(a) {
			t.Fatalf("Turn(%v) = %v, %d", a, x, e)
		}
		for i := range a {
			for j := range a {
				if bit(a[i], j) != bit(x[j], i) {
					t.Errorf("Turn(%v): pair %d, %d", a, i, j)
				}
			}
		}
	}
}

func TestThen(t *testing.T) {
	for _, a := range someRelations() {
		b := mixed(len(a), 2, 77)
		if x, e := bits.Then(a, b); e != api.OK || !slices.Equal(x, plainThen(a, b)) {
			t.Errorf("Then(%v, %v) = %v, %d", a, b, x, e)
		}
		if x, e := bits.Then(b, a); e != api.OK || !slices.Equal(x, plainThen(b, a)) {
			t.Errorf("Then(%v, %v) = %v, %d", b, a, x, e)
		}
	}
	if x, e := bits.Then(chain(3), chain(3)); e != api.OK || !slices.Equal(x, []uint64{4, 0, 0}) {
		t.Errorf("Then of a chain with itself: %v, %d", x, e)
	}
}

func TestThenErrors(t *testing.T) {
	many, bad := make([]uint64, 65), []uint64{2}
	for _, c := range []struct {
		a, b []uint64
		e    api.Errno
	}{
		{many, bad, api.ErrMany},
		{bad, many, api.ErrBit},
		{many, nil, api.ErrMany},
		{nil, many, api.ErrMany},
		{bad, nil, api.ErrBit},
		{nil, bad, api.ErrBit},
		{bad, bad, api.ErrBit},
		{many, many, api.ErrMany},
		{chain(3), []uint64{2}, api.ErrBit},
		{nil, []uint64{1}, api.ErrArg},
		{[]uint64{1}, nil, api.ErrArg},
		{chain(63), chain(64), api.ErrArg},
		{chain(64), chain(63), api.ErrArg},
		{nil, []uint64{}, api.OK},
	} {
		if x, e := bits.Then(c.a, c.b); e != c.e || len(x) != 0 {
			t.Errorf("Then(%v, %v) = %v, %d; want %d", c.a, c.b, x, e, c.e)
		}
	}
}

// P1.4

func TestClosure(t *testing.T) {
	for _, a := range someRelations() {
		x, e := bits.Closure(a)
		if e != api.OK || len(x) != len(a) {
			t.Fatalf("Closure(%v) = %v, %d", a, x, e)
		}
		for i := range a {
			if x[i] != plainReach(a, i) {
				t.Errorf("Closure(%v), row %d: %d", a, i, x[i])
			}
			if r, e := bits.Reach(a, i); r != x[i] || e != api.OK {
				t.Errorf("Reach(%v, %d) = %d, %d", a, i, r, e)
			}
		}
	}
	if x, e := bits.Closure([]uint64{2, 4, 0}); e != api.OK || !slices.Equal(x, []uint64{7, 6, 4}) {
		t.Errorf("Closure of 0 to 1, 1 to 2: %v, %d", x, e)
	}
}

// Ways whose numbers rise are found by a single pass over the rows; these fall, jump and come round.
func TestClosureOfWays(t *testing.T) {
	for _, jump := range []int{1, 5, 27, 63} {
		a := make([]uint64, 64)
		at := 0
		for range 64 {
			next := (at + jump) % 64
			a[at] = 1 << next
			at = next
		}
		x, e := bits.Closure(a)
		if e != api.OK || !slices.Equal(x, slices.Repeat([]uint64{full}, 64)) {
			t.Errorf("a round of all members by %d: %v, %d", jump, x, e)
		}
	}
}

func TestReachErrors(t *testing.T) {
	for _, i := range []int{-1, 3, 4, 63, 64, math.MinInt, math.MaxInt} {
		if r, e := bits.Reach(chain(3), i); r != 0 || e != api.ErrRange {
			t.Errorf("Reach(chain of 3, %d) = %d, %d", i, r, e)
		}
	}
	if r, e := bits.Reach(nil, 0); r != 0 || e != api.ErrRange {
		t.Errorf("Reach(nil, 0) = %d, %d", r, e)
	}
	if r, e := bits.Reach(chain(64), 64); r != 0 || e != api.ErrRange {
		t.Errorf("Reach(chain of 64, 64) = %d, %d", r, e)
	}
	if r, e := bits.Reach(chain(64), 63); r != 1<<63 || e != api.OK {
		t.Errorf("Reach(chain of 64, 63) = %d, %d", r, e)
	}
}

// Rule 2: Check's error is named first, and beside an error nothing is told.
func TestBrokenRows(t *testing.T) {
	for _, c := range broken() {
		if x, e := bits.Turn(c.a); e != c.e || len(x) != 0 {
			t.Errorf("Turn(%v) = %v, %d", c.a, x, e)
		}
		if x, e := bits.Then(c.a, c.a); e != c.e || len(x) != 0 {
			t.Errorf("Then(%v twice) = %v, %d", c.a, x, e)
		}
		if x, e := bits.Closure(c.a); e != c.e || len(x) != 0 {
			t.Errorf("Closure(%v) = %v, %d", c.a, x, e)
		}
		for _, i := range []int{0, -1, 64, len(c.a), math.MinInt, math.MaxInt} {
			if r, e := bits.Reach(c.a, i); e != c.e || r != 0 {
				t.Errorf("Reach(%v, %d) = %d, %d", c.a, i, r, e)
			}
		}
	}
}

// P1.6

func TestClosureIsClosed(t *testing.T) {
	for _, a := range someRelations() {
		c, _ := bits.Closure(a)
		if !has(c, a) {
			t.Errorf("Closure(%v) lacks some of it", a)
		}
		for i := range c {
			if !bits.Has(c[i], i) {
				t.Errorf("Closure(%v): %d does not come to itself", a, i)
			}
		}
		if x, e := bits.Then(c, c); e != api.OK || !slices.Equal(x, c) {
			t.Errorf("Then of Closure(%v) with itself is another one: %v, %d", a, x, e)
		}
	}
}

func TestClosureIsLeast(t *testing.T) {
	for n := 1; n <= 3; n++ {
		var closed [][]uint64
		for code := range uint64(1) << (n * n) {
			r := relation(n, code)
			self := true
			for i := range r {
				self = self && bit(r[i], i)
			}
			if x, _ := bits.Then(r, r); self && has(r, x) {
				closed = append(closed, r)
			}
		}
		for code := range uint64(1) << (n * n) {
			a := relation(n, code)
			c, _ := bits.Closure(a)
			for _, r := range closed {
				if has(r, a) && !has(r, c) {
					t.Errorf("Closure(%v) = %v, but %v has it too", a, c, r)
				}
			}
		}
	}
}

// P1.7

func TestTurned(t *testing.T) {
	for _, a := range someRelations() {
		turned, _ := bits.Turn(a)
		if x, e := bits.Turn(turned); e != api.OK || !slices.Equal(x, a) {
			t.Errorf("Turn of Turn of %v: %v, %d", a, x, e)
		}
		checkTurnedThen(t, a, mixed(len(a), 3, 5))
	}
	for code := range uint64(1 << 4) {
		for other := range uint64(1 << 4) {
			checkTurnedThen(t, relation(2, code), relation(2, other))
		}
	}
}

func checkTurnedThen(t *testing.T, a, b []uint64) {
	t.Helper()
	then, _ := bits.Then(a, b)
	left, _ := bits.Turn(then)
	ta, _ := bits.Turn(a)
	tb, _ := bits.Turn(b)
	right, e := bits.Then(tb, ta)
	if e != api.OK || !slices.Equal(left, right) {
		t.Errorf("Turn of Then of %v and %v: %v, not %v", a, b, left, right)
	}
}

// Rules 1 and 4

// calls are all that answer rows, by their names.
func calls() map[string]func(a []uint64) []uint64 {
	return map[string]func(a []uint64) []uint64{
		"Turn":    func(a []uint64) []uint64 { x, _ := bits.Turn(a); return x },
		"Closure": func(a []uint64) []uint64 { x, _ := bits.Closure(a); return x },
		"Then":    func(a []uint64) []uint64 { x, _ := bits.Then(a, a); return x },
		"Reach":   func(a []uint64) []uint64 { x, _ := bits.Reach(a, 0); return []uint64{x} },
		"Check":   func(a []uint64) []uint64 { return []uint64{uint64(bits.Check(a))} },
	}
}

func TestNothingIsChangedOrShared(t *testing.T) {
	for name, f := range calls() {
		for _, a := range append(someRelations(), []uint64{2}, make([]uint64, 65)) {
			room := append(slices.Clone(a), full, full) // what lies behind a list's end is not ours either
			given := room[:len(a)]
			first := f(given)
			kept := slices.Clone(first)
			if !slices.Equal(room, append(slices.Clone(a), full, full)) {
				t.Errorf("%s changes %v to %v", name, a, room)
			}
			second := f(given)
			clear(room)
			clear(second[:cap(second)])
			if !slices.Equal(first, kept) {
				t.Errorf("%s of %v shares its answer", name, a)
			}
		}
	}
}

func TestMembersAreNotChangedOrShared(t *testing.T) {
	l := []int{3, 0, 3, 64, -1}
	bits.Of(l...)
	bits.Of(l[:3]...)
	if !slices.Equal(l, []int{3, 0, 3, 64, -1}) {
		t.Errorf("Of changes its list to %v", l)
	}
	first := bits.List(9)
	second := bits.List(9)
	second[0], second[1] = 7, 7
	if !slices.Equal(first, []int{0, 3}) || !slices.Equal(bits.List(9), []int{0, 3}) {
		t.Errorf("List shares its answer: %v", first)
	}
}

func TestNilIsEmpty(t *testing.T) {
	for name, f := range calls() {
		if x, y := f(nil), f([]uint64{}); !slices.Equal(x, y) {
			t.Errorf("%s: of nil %v, of an empty list %v", name, x, y)
		}
	}
	for _, a := range [][]uint64{nil, {}} {
		x, e := bits.Turn(a)
		y, e2 := bits.Closure(a)
		z, e3 := bits.Then(a, nil)
		if len(x)+len(y)+len(z) != 0 || e != 0 || e2 != 0 || e3 != 0 || bits.Check(a) != 0 {
			t.Errorf("of no rows: %v, %d; %v, %d; %v, %d", x, e, y, e2, z, e3)
		}
	}
	if s, e := bits.Of(); s != 0 || e != 0 {
		t.Errorf("Of nothing: %d, %d", s, e)
	}
	if l := bits.List(0); len(l) != 0 {
		t.Errorf("List(0) = %v", l)
	}
}

// FuzzRows: whatever rows and numbers there are, each call ends, none panics, and all have Check's error.
func FuzzRows(f *testing.F) {
	f.Add([]byte{}, 0)
	f.Add([]byte{0xff, 1, 2}, -1)
	f.Add(make([]byte, 8*65), 64)
	f.Fuzz(func(t *testing.T, b []byte, i int) {
		var a []uint64
		for k, x := range b {
			if k%8 == 0 {
				a = append(a, 0)
			}
			a[k/8] |= uint64(x) << (k % 8 * 8)
		}
		want := bits.Check(a)
		_, turn := bits.Turn(a)
		_, then := bits.Then(a, a)
		_, closure := bits.Closure(a)
		_, reach := bits.Reach(a, i)
		if want == api.OK && (i < 0 || i >= len(a)) && reach == api.ErrRange {
			reach = api.OK
		}
		if turn != want || then != want || closure != want || reach != want {
			t.Errorf("%v, %d: %d, %d, %d, %d, not %d", a, i, turn, then, closure, reach, want)
		}
		for _, s := range a {
			bits.Has(s, i)
			bits.Rank(s, i)
			bits.Nth(s, i)
			bits.Of(i, bits.Size(s), i)
		}
	})
}
