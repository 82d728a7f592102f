package derive_test

import (
	"slices"
	"testing"

	"rampart/api"
)

// P12.3: as far as it is ranged over: nothing is told behind a break, and each ranging is from the first one on.
func TestBelowInPart(t *testing.T) {
	f, p := family(t)
	told, want := f.Below(0), []int{2, 3, 7, 1, 8}
	for upto := range 7 {
		var got []int
		told(func(n int) bool {
			got = append(got, n)
			return len(got) <= upto
		})
		if want := want[:min(upto+1, 5)]; !slices.Equal(got, want) {
			t.Errorf("up to %d: %v, want %v", upto, got, want)
		}
	}
	for range 2 {
		if got := slices.Collect(told); !slices.Equal(got, want) {
			t.Errorf("to the end: %v, want %v", got, want)
		}
	}
	var got []int
	for a := range told {
		for b := range told {
			got = append(got, b)
			if a == b {
				break
			}
		}
	}
	if want := []int{2, 2, 3, 2, 3, 7, 2, 3, 7, 1, 2, 3, 7, 1, 8}; !slices.Equal(got, want) {
		t.Errorf("in itself: %v, want %v", got, want)
	}
	stands(t, f, p, "ranged over")
}

// P12.3: what is told hangs on how it stood when the ranging began, whatever is done in the loop, and wherever there.
func TestBelowChanged(t *testing.T) {
	var deeds []deed
	for n := range 9 {
		deeds = append(deeds, deed{"Cut", n, 0}, deed{"Prune", n, 0}, deed{"Root", n, 0}, deed{"Derive", n, 4}, deed{"Derive", n, 6})
	}
	want := []int{2, 3, 7, 1, 8}
	for _, d := range deeds {
		for at := range 5 {
			f, p := family(t)
			var got []int
			for n := range f.Below(0) {
				if len(got) == at {
					do(f, d)
					p.do(d)
					stands(t, f, p, d, "in the loop")
				}
				got = append(got, n)
			}
			if !slices.Equal(got, want) {
				t.Errorf("%v at %d: told %v, want %v", d, at, got, want)
			}
			stands(t, f, p, d, "behind the loop")
		}
	}
}

// P12.3: what is told may go, and come again elsewhere, as it is told.
func TestBelowEmptied(t *testing.T) {
	f, p := family(t)
	var got []int
	for n := range f.Below(0) {
		got = append(got, n)
		do(f, deed{"Cut", n, 0})
		p.do(deed{"Cut", n, 0})
		must(t, f, p, deed{"Derive", 5, n})
		for range f.Below(5) {
			break
		}
	}
	if !slices.Equal(got, []int{2, 3, 7, 1, 8}) {
		t.Errorf("told %v", got)
	}
	stands(t, f, p, "emptied")
	if l := below(f, 5); !slices.Equal(l, []int{2, 3, 7, 1, 8}) {
		t.Errorf("Below(5): %v", l)
	}
	if l := below(f, 0); l != nil {
		t.Errorf("Below(0): %v", l)
	}
}

// P12.3: an iterator tells how the forest stands when it is ranged over, not when Below was called.
func TestBelowLater(t *testing.T) {
	f := made(t, 4)
	told, beyond := f.Below(1), f.Below(4)
	for i, want := range [][]int{nil, nil, {3}, {3, 0}, {0}, {0, 3}, nil, nil} {
		if got := slices.Collect(told); !slices.Equal(got, want) {
			t.Errorf("%d: told %v, want %v", i, got, want)
		}
		for n := range beyond {
			t.Errorf("%d: Below(4) tells %d", i, n)
		}
		do(f, []deed{{"Root", 1, 0}, {"Derive", 1, 3}, {"Derive", 1, 0}, {"Cut", 3, 0}, {"Derive", 0, 3}, {"Cut", 1, 0}, {"Root", 0, 0}, {"Root", 2, 0}}[i])
	}
}

// P12.3: of one that is not there nothing is told; there is an iterator nonetheless, and it may be called with nothing to tell to.
func TestBelowOfNone(t *testing.T) {
	f, p := family(t)
	for _, node := range append(far, 4, 6, 9, 10) {
		told := f.Below(node)
		if told == nil {
			t.Fatalf("Below(%d) = nil", node)
		}
		for n := range told {
			t.Errorf("Below(%d) tells %d", node, n)
		}
		told(nil)
	}
	f.Below(0)(nil)
	stands(t, f, p, "called with nil")
}

// P12.3: a loop in a loop that changes what the outer one is about.
func TestBelowChangedInPart(t *testing.T) {
	f, p := family(t)
	var got []int
	for a := range f.Below(0) {
		must(t, f, p, deed{"Prune", 0, 0})
		for _, n := range []int{8, 1} {
			if e := f.Derive(0, n); e != api.OK {
				t.Fatalf("Derive(0, %d) = %d", n, e)
			}
			p.do(deed{"Derive", 0, n})
		}
		for b := range f.Below(0) {
			got = append(got, a, b)
			if len(got)%4 == 0 && a == 7 {
				break
			}
		}
	}
	if want := []int{2, 8, 2, 1, 3, 8, 3, 1, 7, 8, 7, 1, 1, 8, 1, 1, 8, 8, 8, 1}; !slices.Equal(got, want) {
		t.Errorf("told %v, want %v", got, want)
	}
	stands(t, f, p, "changed")
}
