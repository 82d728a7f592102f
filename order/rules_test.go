package order_test

import (
	"fmt"
	"slices"
	"sync"
	"testing"

	"rampart/api"
	"rampart/order"
)

// The chapter's examples.
func TestExamples(t *testing.T) {
	if d := order.Ahead(1<<64-1, 1); d != 2 {
		t.Errorf("Ahead(2^64 - 1, 1) = %d", d)
	}
	if size, e := order.Size(5); size != 8 || e != api.OK {
		t.Errorf("Size(5) = %d, %d", size, e)
	}
	if n, e := order.Number(api.Stamp{Tick: 3, Step: 1}, 5); n != 16 || e != api.OK {
		t.Errorf("Number of (3, 1), budget 5: %d, %d", n, e)
	}
}

// Rules 1 and 2: whatever the arguments, each call ends without a panic, and has no error but ErrOrder, with zero beside it.
func TestAnyArguments(t *testing.T) {
	for _, n := range someInts() {
		if size, e := order.Size(n); !one(size == 0, e) {
			t.Errorf("Size(%d) = %d, %d", n, size, e)
		}
		for _, x := range someNumbers() {
			if p, e := order.Place(x, n); e != 0 && (e != api.ErrOrder || p != 0) {
				t.Errorf("Place(%d, %d) = %d, %d", x, n, p, e)
			}
			if s, e := order.Stamp(x, n); e != 0 && (e != api.ErrOrder || s != api.Stamp{}) {
				t.Errorf("Stamp(%d, %d) = %v, %d", x, n, s, e)
			}
		}
		for _, s := range someStamps() {
			if x, e := order.Number(s, n); e != 0 && (e != api.ErrOrder || x != 0) {
				t.Errorf("Number(%v, %d) = %d, %d", s, n, x, e)
			}
		}
	}
}

// one tells that there is either an answer or ErrOrder, where no answer is zero.
func one(zero bool, e api.Errno) bool { return zero && e == api.ErrOrder || !zero && e == api.OK }

// Rule 5: what was asked ahead of a call, or is asked beside it, changes nothing.
func TestNothingIsKept(t *testing.T) {
	asked := []func() string{
		func() string {
			return fmt.Sprint(order.Ahead(full, 1), order.Before(1, full), order.Within(full, 0, 2))
		},
		func() string { return fmt.Sprint(order.Size(5)) },
		func() string { return fmt.Sprint(order.Size(-1)) },
		func() string { return fmt.Sprint(order.Place(full, 8)) },
		func() string { return fmt.Sprint(order.Place(full, 6)) },
		func() string { return fmt.Sprint(order.Compare(api.Stamp{Tick: 1}, api.Stamp{Step: 1})) },
		func() string { return fmt.Sprint(order.Number(api.Stamp{Tick: 3, Step: 1}, 5)) },
		func() string { return fmt.Sprint(order.Number(api.Stamp{Tick: 3, Step: 1}, 1)) },
		func() string { return fmt.Sprint(order.Stamp(16, 5)) },
		func() string { return fmt.Sprint(order.Stamp(full, 5)) },
		func() string {
			return fmt.Sprint(order.Sorted(api.Stamp{Tick: 2}, api.Stamp{Tick: 1}, api.Stamp{Tick: 2}))
		},
		func() string { return fmt.Sprint(order.Sorted()) },
	}
	want := make([]string, len(asked))
	for i, f := range asked {
		want[i] = f()
	}
	for _, f := range asked {
		f()
		for i, g := range asked {
			if got := g(); got != want[i] {
				t.Errorf("call %d answered %s, then %s", i, want[i], got)
			}
		}
	}
	besides(t, asked, want)
}

// besides asks for all from several sides at once.
func besides(t *testing.T, asked []func() string, want []string) {
	var all sync.WaitGroup
	for range 8 {
		all.Go(func() {
			for i, f := range asked {
				if got := f(); got != want[i] {
					t.Errorf("call %d answered %s, beside others %s", i, want[i], got)
				}
			}
		})
	}
	all.Wait()
}

// Rules 4 and 5: what Sorted answers does not hang on the capacity of what is handed in, nor on whether an empty row is nil.
func TestSortedCapacity(t *testing.T) {
	row := []api.Stamp{{Tick: 2}, {Tick: 1}, {Tick: 2}, {Tick: 0}}
	want := order.Sorted(row...)
	for _, room := range []int{4, 5, 64} {
		if got := order.Sorted(slices.Grow(slices.Clip(slices.Clone(row)), room)...); !slices.Equal(got, want) {
			t.Errorf("with room for %d more: %v, want %v", room, got, want)
		}
	}
	if a, b := order.Sorted(nil...), order.Sorted(make([]api.Stamp, 0, 9)...); len(a) != 0 || len(b) != 0 {
		t.Errorf("of none: %v, %v", a, b)
	}
}
