package slotlist_test

import (
	"math"
	"slices"
	"testing"

	"rampart/api"
	"rampart/slotlist"
)

// ways is both ways of telling a list, and its nodes, as each tells them.
func ways(l *slotlist.Lists, list int, order ...int) map[string]struct {
	told func(yield func(int) bool)
	want []int
} {
	back := slices.Clone(order)
	slices.Reverse(back)
	return map[string]struct {
		told func(yield func(int) bool)
		want []int
	}{
		"All":  {l.All(list), order},
		"Back": {l.Back(list), back},
	}
}

// P5.4: as far as it is ranged over; nothing is told behind a break, and each ranging is from the first one on.
func TestRangeInPart(t *testing.T) {
	l := filled(t, 5, []int{3, 0, 4}, []int{1})
	for name, w := range ways(l, 0, 3, 0, 4) {
		for upto := range 5 {
			var got []int
			w.told(func(n int) bool {
				got = append(got, n)
				return len(got) <= upto
			})
			if want := w.want[:min(upto+1, 3)]; !slices.Equal(got, want) {
				t.Errorf("%s up to %d: %v, want %v", name, upto, got, want)
			}
		}
		for range 2 {
			if got := slices.Collect(w.told); !slices.Equal(got, w.want) {
				t.Errorf("%s to the end: %v, want %v", name, got, w.want)
			}
		}
		var got []int
		for a := range w.told {
			for b := range w.told {
				got = append(got, a, b)
				if a == b {
					break
				}
			}
		}
		x := w.want
		if want := []int{x[0], x[0], x[1], x[0], x[1], x[1], x[2], x[0], x[2], x[1], x[2], x[2]}; !slices.Equal(got, want) {
			t.Errorf("%s in itself: %v, want %v", name, got, want)
		}
	}
	stand(t, "ranged over", l, 5, []int{3, 0, 4}, []int{1})
}

// P5.4: what is told hangs on how the list stood when the ranging began, whatever is done in the loop, and wherever there.
func TestRangeChanged(t *testing.T) {
	deeds := []deed{
		{"Push", 0, 5}, {"PushFront", 0, 5}, {"Pop", 0, 0}, {"Take", 0, 1}, {"Take", 1, 0}, {"Take", 2, 0}, {"Take", 2, 1},
	}
	for n := range 6 {
		deeds = append(deeds, deed{"Drop", 0, n}, deed{"Move", 0, n}, deed{"Move", 1, n}, deed{"Move", 2, n})
	}
	for _, d := range deeds {
		for at := range 3 {
			for _, name := range []string{"All", "Back"} {
				l := filled(t, 6, []int{3, 0, 4}, []int{1, 2}, nil)
				p := &plain{nodes: 6, lists: [][]int{{3, 0, 4}, {1, 2}, nil}}
				w := ways(l, 0, 3, 0, 4)[name]
				var got []int
				for n := range w.told {
					if len(got) == at {
						do(l, d)
						p.do(d)
					}
					got = append(got, n)
				}
				if !slices.Equal(got, w.want) {
					t.Errorf("%s, %v at %d: told %v, want %v", name, d, at, got, w.want)
				}
				if s := wrong(l, p); s != "" {
					t.Errorf("%s, %v at %d: %s", name, d, at, s)
				}
			}
		}
	}
}

// P5.4: all that is told may be taken out, and put elsewhere, as it is told.
func TestRangeEmptied(t *testing.T) {
	l := filled(t, 5, []int{3, 0, 4}, []int{1})
	for n := range l.All(0) {
		if e := l.Move(1, n); e != api.OK {
			t.Errorf("Move(1, %d) = %d", n, e)
		}
	}
	stand(t, "All", l, 5, nil, []int{1, 3, 0, 4})
	for n := range l.Back(1) {
		if e := l.Drop(n); e != api.OK {
			t.Errorf("Drop(%d) = %d", n, e)
		}
	}
	stand(t, "Back", l, 5, nil, nil)
	for range l.All(0) {
		t.Error("an empty list tells something")
	}
}

// P5.4: an iterator tells how the list stands when it is ranged over, not when All or Back was called.
func TestRangeLater(t *testing.T) {
	l := filled(t, 5, []int{3, 0, 4}, []int{1})
	forth, back := l.All(0), l.Back(0)
	do(l, deed{"Take", 0, 1})
	do(l, deed{"Drop", 0, 0})
	if got := slices.Collect(forth); !slices.Equal(got, []int{3, 4, 1}) {
		t.Errorf("All: %v", got)
	}
	do(l, deed{"Pop", 0, 0})
	if got := slices.Collect(back); !slices.Equal(got, []int{1, 4}) {
		t.Errorf("Back: %v", got)
	}
}

// P5.4: of a list that there is not nothing is told; there is an iterator nonetheless, and it may be called with nothing to tell to.
func TestRangeOfNone(t *testing.T) {
	l := filled(t, 2, []int{1, 0})
	for _, k := range []int{-1, 1, 2, 3, math.MinInt, math.MaxInt, api.MaxNodes} {
		for name, w := range ways(l, k) {
			if w.told == nil {
				t.Fatalf("%s(%d) = nil", name, k)
			}
			for n := range w.told {
				t.Errorf("%s(%d) tells %d", name, k, n)
			}
		}
	}
	for _, w := range ways(l, 0) {
		w.told(nil)
	}
	stand(t, "called with nil", l, 2, []int{1, 0})
}
