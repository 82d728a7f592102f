package agenda_test

import (
	"cmp"
	"math"
	"slices"
	"testing"

	"rampart/agenda"
	"rampart/api"
)

// rises is a less of numbers.
func rises(a, b int) bool { return a < b }

// filled is an agenda of some numbers, the least first.
func filled(t testing.TB, l ...int) *agenda.Agenda[int] {
	t.Helper()
	a := agenda.New(rises)
	for i, x := range l {
		pushes(t, a, x, i+1)
	}
	return a
}

// pushes is what a Push must tell.
func pushes(t testing.TB, a *agenda.Agenda[int], x, want int) {
	t.Helper()
	if id, e := a.Push(x); id != want || e != api.OK {
		t.Fatalf("Push(%d) = %d, %d, want %d", x, id, e, want)
	}
}

// first is what First must tell of an agenda that has entries.
func first(t testing.TB, a *agenda.Agenda[int], x, id int) {
	t.Helper()
	for range 2 {
		if gotX, got, ok := a.First(); gotX != x || got != id || !ok {
			t.Fatalf("First() = %d, %d, %v, want %d, %d", gotX, got, ok, x, id)
		}
	}
}

// must holds an error against what it must be.
func must(t testing.TB, got, want api.Errno, what string) {
	t.Helper()
	if got != want {
		t.Fatalf("%s: %d, want %d", what, got, want)
	}
}

// pair is an entry as Pop tells it.
type pair struct{ x, id int }

// empties pops all, and holds it against what it must be.
func empties(t testing.TB, a *agenda.Agenda[int], want ...pair) {
	t.Helper()
	var got []pair
	for range want {
		n := a.Len()
		x, id, ok := a.Pop()
		if !ok || n == 0 || a.Len() != n-1 {
			t.Fatalf("Pop() = %d, %d, %v of %d entries; %v ahead of it", x, id, ok, n, got)
		}
		if y, ok := a.Get(id); y != 0 || ok {
			t.Fatalf("Get(%d) = %d, %v: it was popped", id, y, ok)
		}
		got = append(got, pair{x, id})
	}
	if !slices.Equal(got, want) {
		t.Fatalf("popped: %v, want %v", got, want)
	}
	isEmpty(t, a)
}

// isEmpty looks whether nothing comes first in an agenda.
func isEmpty(t testing.TB, a *agenda.Agenda[int]) {
	t.Helper()
	if n := a.Len(); n != 0 {
		t.Fatalf("Len() = %d, want 0", n)
	}
	if x, id, ok := a.First(); x != 0 || id != 0 || ok {
		t.Fatalf("First() = %d, %d, %v of nothing", x, id, ok)
	}
	if x, id, ok := a.Pop(); x != 0 || id != 0 || ok {
		t.Fatalf("Pop() = %d, %d, %v of nothing", x, id, ok)
	}
	for x := range a.Drain() {
		t.Fatalf("Drain() tells %d of nothing", x)
	}
}

// The chapter's example.
func TestExample(t *testing.T) {
	a := filled(t, 5, 3, 5)
	first(t, a, 3, 2)
	must(t, a.Set(2, 9), 0, "Set(2, 9)")
	first(t, a, 5, 1)
	must(t, a.Drop(1), 0, "Drop(1)")
	first(t, a, 5, 3)
	empties(t, a, pair{5, 3}, pair{9, 2})
}

// P9.1: numbers are from 1 on, each given once, whatever was taken out, and whatever was refused.
func TestNumbers(t *testing.T) {
	a := agenda.New(rises)
	isEmpty(t, a)
	pushes(t, a, 7, 1)
	empties(t, a, pair{7, 1})
	pushes(t, a, 7, 2)
	must(t, a.Drop(2), api.OK, "Drop(2)")
	pushes(t, a, 8, 3)
	pushes(t, a, 0, 4)
	must(t, a.Drop(5), api.ErrGone, "Drop(5)")
	must(t, a.Set(5, 1), api.ErrGone, "Set(5)")
	some(a.Drain(), 9)
	isEmpty(t, a)
	for i := range 100 {
		pushes(t, a, -i, 5+i)
		if n := a.Len(); n != i+1 {
			t.Fatalf("Len() = %d, want %d", n, i+1)
		}
	}
	first(t, a, -99, 104)
}

// P9.1: Get tells each entry by its number, as it was set last, and takes nothing out.
func TestGet(t *testing.T) {
	a := filled(t, 4, 0, 4, -3)
	for i, want := range []int{4, 0, 4, -3} {
		for range 2 {
			if x, ok := a.Get(i + 1); x != want || !ok {
				t.Errorf("Get(%d) = %d, %v, want %d", i+1, x, ok, want)
			}
		}
	}
	must(t, a.Set(3, 8), api.OK, "Set(3, 8)")
	must(t, a.Set(3, 6), api.OK, "Set(3, 6)")
	if x, ok := a.Get(3); x != 6 || !ok {
		t.Errorf("Get(3) = %d, %v, want 6", x, ok)
	}
	if n := a.Len(); n != 4 {
		t.Errorf("Len() = %d", n)
	}
	empties(t, a, pair{-3, 4}, pair{0, 2}, pair{4, 1}, pair{6, 3})
}

// P9.1, P9.2, rule 2: numbers of 0 and below, of entries that are gone, one way or another, and of none: zero and false, or ErrGone, and nothing is changed.
func TestGone(t *testing.T) {
	a := filled(t, 10, 20, 30, 40, 50, 60)
	a.Pop()
	must(t, a.Drop(4), api.OK, "Drop(4)")
	some(a.Drain(), 1)
	for _, id := range []int{0, -1, -2, -3, math.MinInt, math.MaxInt, 7, 8, 1 << 32, 1<<32 + 3, 1, 4, 2} {
		if x, ok := a.Get(id); x != 0 || ok {
			t.Errorf("Get(%d) = %d, %v", id, x, ok)
		}
		for range 2 {
			must(t, a.Set(id, 5), 90, "Set")
			must(t, a.Drop(id), 90, "Drop")
		}
		if n := a.Len(); n != 3 {
			t.Errorf("Len() = %d", n)
		}
		first(t, a, 30, 3)
	}
	pushes(t, a, 35, 7)
	empties(t, a, pair{30, 3}, pair{35, 7}, pair{50, 5}, pair{60, 6})
}

// P9.1, P9.2: Set of each entry to each place: ahead, behind, where it was, and beside alike ones, where its number tells its place.
func TestSet(t *testing.T) {
	for n := 1; n <= 9; n++ {
		for id := 1; id <= n; id++ {
			for x := 5; x <= 10*n+15; x += 5 {
				for _, rows := range [][]int{rising(n), back(rising(n)), mixed(n)} {
					a := filled(t, rows...)
					must(t, a.Set(id, x), api.OK, "Set")
					rows[id-1] = x
					if a.Len() != n {
						t.Fatalf("Len() = %d, want %d", a.Len(), n)
					}
					empties(t, a, inOrder(rows)...)
				}
			}
		}
	}
}

// P9.2: Drop of each entry: the first, one in the midst, the last, the only one.
func TestDrop(t *testing.T) {
	for n := 1; n <= 12; n++ {
		for id := 1; id <= n; id++ {
			for _, rows := range [][]int{rising(n), back(rising(n)), mixed(n), make([]int, n)} {
				a := filled(t, rows...)
				must(t, a.Drop(id), api.OK, "Drop")
				if x, ok := a.Get(id); x != 0 || ok || a.Len() != n-1 {
					t.Fatalf("Get(%d) = %d, %v, of %d", id, x, ok, a.Len())
				}
				must(t, a.Drop(id), api.ErrGone, "Drop again")
				want := slices.DeleteFunc(inOrder(rows), func(p pair) bool { return p.id == id })
				empties(t, a, want...)
			}
		}
	}
}

// P9.2: First and Pop till none is left, and a Push behind that.
func TestTillNoneIsLeft(t *testing.T) {
	a := filled(t, 2, 1, 2)
	for _, want := range []pair{{1, 2}, {2, 1}, {2, 3}} {
		first(t, a, want.x, want.id)
		if x, id, ok := a.Pop(); x != want.x || id != want.id || !ok {
			t.Fatalf("Pop() = %d, %d, %v, want %v", x, id, ok, want)
		}
	}
	isEmpty(t, a)
	isEmpty(t, a)
	pushes(t, a, 0, 4)
	first(t, a, 0, 4)
	pushes(t, a, -1, 5)
	first(t, a, -1, 5)
	empties(t, a, pair{-1, 5}, pair{0, 4})
}

// P9.2, P9.4: many alike ones come in the order in which they came, with others among them, and behind Sets that leave them alike.
func TestManyAlike(t *testing.T) {
	const many = 300
	a := agenda.New(func(a, b thing) bool { return a.key < b.key })
	for i := range many {
		a.Push(thing{key: i % 3, tag: i})
	}
	for i := range many {
		a.Set(many-i, thing{key: (many - i - 1) % 3, tag: -i})
	}
	for key := range 3 {
		for i := key; i < many; i += 3 {
			want := thing{key: key, tag: i + 1 - many}
			if x, id, ok := a.Pop(); x != want || id != i+1 || !ok {
				t.Fatalf("Pop() = %v, %d, %v, want %v, %d", x, id, ok, want, i+1)
			}
		}
	}
}

// rising is 10, 20, .., so many.
func rising(n int) []int {
	l := make([]int, n)
	for i := range l {
		l[i] = 10 * (i + 1)
	}
	return l
}

// back is a list from its end on.
func back(l []int) []int {
	slices.Reverse(l)
	return l
}

// mixed is so many of such numbers in no order, some of them alike.
func mixed(n int) []int {
	l := make([]int, n)
	for i := range l {
		l[i] = 10 * (1 + i*5%7)
	}
	return l
}

// inOrder is what an agenda of some numbers, the least first, must tell.
func inOrder(l []int) []pair {
	var out []pair
	for i, x := range l {
		out = append(out, pair{x, i + 1})
	}
	slices.SortFunc(out, func(a, b pair) int { return cmp.Or(cmp.Compare(a.x, b.x), cmp.Compare(a.id, b.id)) })
	return out
}
