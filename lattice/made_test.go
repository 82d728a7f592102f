package lattice_test

import (
	"math"
	"slices"
	"testing"

	"rampart/api"
	"rampart/bits"
	"rampart/lattice"
)

// power is Power's policy of k things.
func power(t *testing.T, k int) []uint64 {
	t.Helper()
	f, e := lattice.Power(k)
	if e != api.OK {
		t.Fatalf("Power(%d): %d", k, e)
	}
	return f
}

// P2.4

func TestPower(t *testing.T) {
	for k, want := range [][]uint64{{1}, {3, 2}, {15, 10, 12, 8}, {255, 170, 204, 136, 240, 160, 192, 128}} {
		if f, e := lattice.Power(k); e != api.OK || !slices.Equal(f, want) {
			t.Errorf("Power(%d) = %v, %d; want %v", k, f, e, want)
		}
	}
	for k := range 5 {
		f := power(t, k)
		if len(f) != 1<<k {
			t.Fatalf("Power(%d) has %d labels", k, len(f))
		}
		for a := range f {
			want := setOf(len(f), func(b int) bool { return a|b == b })
			if f[a] != want {
				t.Errorf("Power(%d), row %d: %b, want %b", k, a, f[a], want)
			}
		}
	}
	for _, k := range []int{-1, 5, 6, 64, -64, math.MinInt, math.MaxInt} {
		if f, e := lattice.Power(k); e != api.ErrRange || len(f) != 0 {
			t.Errorf("Power(%d) = %v, %d", k, f, e)
		}
	}
}

func TestProduct(t *testing.T) {
	made, many := 0, 0
	l := somePolicies(t)
	for i := 0; i < len(l); i += 3 {
		for j := 1; j < len(l); j += 5 {
			f, g := l[i], l[j]
			p, e := lattice.Product(f, g)
			if len(f)*len(g) > 16 {
				many++
				if e != api.ErrMany || len(p) != 0 {
					t.Errorf("Product(%v, %v) = %v, %d", f, g, p, e)
				}
				continue
			}
			made++
			if e != api.OK || !slices.Equal(p, plainProduct(f, g)) {
				t.Errorf("Product(%v, %v) = %v, %d", f, g, p, e)
			}
		}
	}
	if made < 1000 || many < 1000 {
		t.Errorf("%d products that may be and %d that may not are too few", made, many)
	}
}

// plainProduct goes through each two pairs.
func plainProduct(f, g []uint64) []uint64 {
	n := len(f) * len(g)
	p := make([]uint64, n)
	for x := range n {
		p[x] = setOf(n, func(y int) bool { return to(f, x/len(g), y/len(g)) && to(g, x%len(g), y%len(g)) })
	}
	return p
}

func TestProductEdges(t *testing.T) {
	one := []uint64{1}
	for _, c := range []struct {
		f, g, p []uint64
		e       api.Errno
	}{
		{one, one, one, 0},
		{[]uint64{3, 2}, []uint64{1, 2}, []uint64{5, 10, 4, 8}, 0},
		{[]uint64{1, 2}, []uint64{3, 2}, []uint64{3, 2, 12, 8}, 0},
		{rising(16), one, rising(16), 0},
		{one, falling(16), falling(16), 0},
		{apart(4), apart(4), apart(16), 0},
		{apart(2), apart(8), apart(16), 0},
		{apart(5), apart(3), apart(15), 0},
		{apart(16), apart(2), nil, api.ErrMany},
		{apart(8), apart(3), nil, api.ErrMany},
		{apart(16), apart(16), nil, api.ErrMany},
		{nil, one, nil, api.ErrArg},
		{one, nil, nil, api.ErrArg},
		{apart(17), nil, nil, api.ErrMany}, // f's error stands ahead of g's
		{nil, apart(17), nil, api.ErrArg},  // and not the other way round
		{[]uint64{0}, []uint64{2}, nil, api.ErrPolicy},
		{[]uint64{2}, []uint64{0}, nil, api.ErrBit},
		{apart(16), make([]uint64, 16), nil, api.ErrPolicy}, // g's error stands ahead of ErrMany
		{make([]uint64, 16), apart(16), nil, api.ErrPolicy},
		{apart(16), same(16, full), nil, api.ErrBit},
	} {
		if p, e := lattice.Product(c.f, c.g); e != c.e || !slices.Equal(p, c.p) {
			t.Errorf("Product(%v, %v) = %v, %d; want %v, %d", c.f, c.g, p, e, c.p, c.e)
		}
	}
	for _, c := range someBad() {
		for _, d := range someBad() {
			if p, e := lattice.Product(c.f, d.f); e != c.e || len(p) != 0 {
				t.Errorf("Product(%v, %v) = %v, %d; want %d", c.f, d.f, p, e, c.e)
			}
		}
		if p, e := lattice.Product(c.f, one); e != c.e || len(p) != 0 {
			t.Errorf("Product(%v, 1) = %v, %d; want %d", c.f, p, e, c.e)
		}
		if p, e := lattice.Product(apart(16), c.f); e != c.e || len(p) != 0 {
			t.Errorf("Product(16, %v) = %v, %d; want %d", c.f, p, e, c.e)
		}
	}
}

// P2.5

func TestClosed(t *testing.T) {
	for _, f := range someFlows() {
		c, e := bits.Closure(f)
		if e != api.OK {
			t.Fatalf("Closure(%v): %d", f, e)
		}
		if e := lattice.Check(c); e != api.OK {
			t.Errorf("the closure of %v is no policy: %d", f, e)
		}
		l, e := lattice.Missing(f)
		if e != api.OK || (len(l) == 0) != (lattice.Check(f) == api.OK) {
			t.Errorf("Missing(%v) = %v, %d, and Check tells %d", f, l, e, lattice.Check(f))
		}
		with := slices.Clone(f)
		for _, x := range l {
			with[x.From] |= 1 << x.To
		}
		if !slices.Equal(with, c) {
			t.Errorf("%v with what is missing: %v, want %v", f, with, c)
		}
	}
}

// P2.6

func TestBounds(t *testing.T) {
	for _, f := range somePolicies(t) {
		turned, e := bits.Turn(f)
		if e != api.OK {
			t.Fatalf("Turn(%v): %d", f, e)
		}
		for a := range f {
			for b := range f {
				joins, _ := lattice.Joins(f, a, b)
				for j := range f {
					if !to([]uint64{joins}, 0, j) {
						continue
					}
					if !to(f, a, j) || !to(f, b, j) || f[a]&f[b]&^f[j] != 0 {
						t.Errorf("Joins(%v, %d, %d): %d is none", f, a, b, j)
					}
				}
				if m, e := lattice.Meets(turned, a, b); e != api.OK || m != joins {
					t.Errorf("Joins(%v, %d, %d) = %b, turned %b, %d", f, a, b, joins, m, e)
				}
				if to(f, a, b) && !to([]uint64{joins}, 0, b) {
					t.Errorf("Joins(%v, %d, %d) = %b", f, a, b, joins)
				}
			}
		}
	}
}

// least is the least member of a set of labels.
func least(t *testing.T, s uint64) int {
	t.Helper()
	i, ok := bits.Nth(s, 0)
	if !ok {
		t.Fatal("no join or no meet")
	}
	return i
}

// P2.7

func TestAlgebra(t *testing.T) {
	lattices := 0
	for _, f := range somePolicies(t) {
		if _, ok, _ := lattice.Lattice(f); !ok {
			continue
		}
		lattices++
		join := func(a, b int) int {
			s, _ := lattice.Joins(f, a, b)
			return least(t, s)
		}
		meet := func(a, b int) int {
			s, _ := lattice.Meets(f, a, b)
			return least(t, s)
		}
		equal := func(a, b int) bool { return to(f, a, b) && to(f, b, a) }
		for a := range min(len(f), 8) {
			for b := range min(len(f), 8) {
				if !equal(join(a, meet(a, b)), a) || !equal(meet(a, join(a, b)), a) {
					t.Errorf("%v: a join of %d and a meet of it and %d", f, a, b)
				}
				for c := range min(len(f), 8) {
					if !equal(join(join(a, b), c), join(a, join(b, c))) {
						t.Errorf("%v: joins of %d, %d, %d", f, a, b, c)
					}
				}
			}
		}
	}
	if lattices < 50 {
		t.Errorf("%d lattices are too few", lattices)
	}
}

// P2.8

func TestMade(t *testing.T) {
	for k := range 5 {
		f := power(t, k)
		if x, ok, e := lattice.Lattice(f); !ok || e != api.OK || x != (api.Flow{}) {
			t.Errorf("Lattice of Power(%d) = %v, %t, %d", k, x, ok, e)
		}
		for a := range f {
			for b := range f {
				if s, e := lattice.Joins(f, a, b); e != api.OK || s != 1<<(a|b) {
					t.Errorf("Power(%d): Joins(%d, %d) = %b, %d", k, a, b, s, e)
				}
				if s, e := lattice.Meets(f, a, b); e != api.OK || s != 1<<(a&b) {
					t.Errorf("Power(%d): Meets(%d, %d) = %b, %d", k, a, b, s, e)
				}
			}
		}
	}
	for k := range 5 { // things told in two parts are things
		for m := range 5 - k {
			p, e := lattice.Product(power(t, m), power(t, k))
			if e != api.OK || !slices.Equal(p, power(t, m+k)) {
				t.Errorf("Product of Power(%d) and Power(%d) = %v, %d", m, k, p, e)
			}
		}
	}
}

func TestProductOfLattices(t *testing.T) {
	l := somePolicies(t)
	products := 0
	for i := range l {
		for j := i % 7; j < len(l); j += 7 {
			f, g := l[i], l[j]
			if _, ok, _ := lattice.Lattice(f); !ok || len(f)*len(g) > 16 {
				continue
			}
			if _, ok, _ := lattice.Lattice(g); !ok {
				continue
			}
			products++
			p, e := lattice.Product(f, g)
			if e != api.OK {
				t.Fatalf("Product(%v, %v): %d", f, g, e)
			}
			if x, ok, e := lattice.Lattice(p); !ok || e != api.OK {
				t.Errorf("Lattice of Product(%v, %v) = %v, %t, %d", f, g, x, ok, e)
			}
		}
	}
	if products < 500 {
		t.Errorf("%d products are too few", products)
	}
}

// P2.9

func TestInOrder(t *testing.T) {
	for _, f := range somePolicies(t) {
		l, e := lattice.Order(f)
		if e != api.OK || len(l) != len(f) {
			t.Fatalf("Order(%v) = %v, %d", f, l, e)
		}
		for a := range f {
			if !slices.Contains(l, a) {
				t.Errorf("Order(%v) = %v: %d is missing", f, l, a)
			}
			for b := range f {
				if plainBelow(f, a, b) && slices.Index(l, a) > slices.Index(l, b) {
					t.Errorf("Order(%v) = %v: %d is below %d", f, l, a, b)
				}
			}
		}
	}
}

// Rule 1 (and 5): no call panics, whatever it is given, and answers the same again.

func FuzzCalls(f *testing.F) {
	for _, n := range []int{0, 1, 2, 15, 16, 17, 64, 65} {
		f.Add(n, uint64(n+1), uint64(full), 0, 1)
		f.Add(n, uint64(n+1), uint64(1<<16-1), -1, n)
	}
	f.Add(3, uint64(7), uint64(7), math.MinInt, math.MaxInt)
	f.Fuzz(func(t *testing.T, n int, seed, mask uint64, a, b int) {
		rows := make([]uint64, max(n, 0)%100)
		for i := range rows {
			seed = scramble(seed + 1)
			rows[i] = seed & mask
		}
		closed, _ := bits.Closure(rows)
		for _, f := range [][]uint64{rows, closed} {
			was := slices.Clone(f)
			if x, y := every(f, a, b), every(f, a, b); x != y {
				t.Errorf("of %v, %d, %d two answers: %v and %v", f, a, b, x, y)
			}
			if !slices.Equal(f, was) {
				t.Errorf("%v became %v", was, f)
			}
			if e := lattice.Check(f); (e == api.OK) != (len(f) > 0 && len(f) <= 16 && bits.Check(f) == api.OK && plainPolicy(f)) {
				t.Errorf("Check(%v) = %d", f, e)
			}
		}
	})
}

// every makes every call, and tells the errors and some of the answers.
func every(f []uint64, a, b int) [16]uint64 {
	e := lattice.Check(f)
	missing, e1 := lattice.Missing(f)
	is, e2 := lattice.Flows(f, a, b)
	joins, e3 := lattice.Joins(f, a, b)
	meets, e4 := lattice.Meets(f, a, b)
	x, ok, e5 := lattice.Lattice(f)
	classes, e6 := lattice.Classes(f)
	order, e7 := lattice.Order(f)
	power, e8 := lattice.Power(a)
	product, e9 := lattice.Product(f, f)
	errors := uint64(0)
	for _, e := range []api.Errno{e, e1, e2, e3, e4, e5, e6, e7, e8, e9} {
		errors = errors*31 + uint64(e)
	}
	r := [16]uint64{errors, uint64(len(missing)), joins, meets, uint64(x.From), uint64(x.To), uint64(len(classes)), uint64(len(power)), uint64(len(product))}
	if is {
		r[9] = 1
	}
	if ok {
		r[10] = 1
	}
	for _, a := range order {
		r[11] = r[11]*16 + uint64(a)
	}
	for _, row := range product {
		r[12] = r[12]*31 + row
	}
	return r
}

// Rule 4

func TestArgumentsStay(t *testing.T) {
	l := append(someFlows(), nil, []uint64{}, make([]uint64, 17), same(16, full))
	for _, f := range l {
		was := slices.Clone(f)
		for _, a := range []int{-1, 0, 1, 16} {
			every(f, a, 0)
		}
		if !slices.Equal(f, was) {
			t.Errorf("%v became %v", was, f)
		}
	}
}

func TestAnswersAreNew(t *testing.T) {
	f, one := rising(3), []uint64{1}
	for name, make := range map[string]func() []uint64{
		"Classes":         func() []uint64 { l, _ := lattice.Classes(f); return l },
		"Power":           func() []uint64 { l, _ := lattice.Power(2); return l },
		"Product with 1":  func() []uint64 { l, _ := lattice.Product(f, one); return l },
		"Product of 1 by": func() []uint64 { l, _ := lattice.Product(one, f); return l },
	} {
		x, y := make(), make()
		was := slices.Clone(y)
		for i := range x {
			x[i] = 0
		}
		_ = append(x, 0, 0)
		if !slices.Equal(y, was) || !slices.Equal(f, rising(3)) || one[0] != 1 {
			t.Errorf("%s shares memory", name)
		}
	}
	x, _ := lattice.Order(f)
	y, _ := lattice.Order(f)
	x[0], x[1] = 9, 9
	if !slices.Equal(y, []int{0, 1, 2}) {
		t.Error("Order shares memory")
	}
	m, _ := lattice.Missing([]uint64{0, 0})
	n, _ := lattice.Missing([]uint64{0, 0})
	m[0], m[1] = api.Flow{From: 9}, api.Flow{From: 9}
	if n[0] != (api.Flow{}) || n[1] != (api.Flow{From: 1, To: 1}) {
		t.Error("Missing shares memory")
	}
}

func TestNilIsEmpty(t *testing.T) {
	for _, a := range []int{-1, 0, 1} {
		if x, y := every(nil, a, a), every([]uint64{}, a, a); x != y {
			t.Errorf("nil and empty flows: %v and %v", x, y)
		}
	}
}

// The chapter's examples.

func TestExamples(t *testing.T) {
	f := []uint64{3, 2}
	if _, ok, e := lattice.Lattice(f); !ok || e != api.OK {
		t.Errorf("Lattice(%v) = %t, %d", f, ok, e)
	}
	if s, e := lattice.Joins(f, 0, 1); s != 2 || e != api.OK {
		t.Errorf("Joins(%v, 0, 1) = %b, %d", f, s, e)
	}
	if s, e := lattice.Joins(power(t, 2), 1, 2); s != 8 || e != api.OK {
		t.Errorf("Joins of 1 and 2 in Power(2) = %b, %d", s, e)
	}
}
