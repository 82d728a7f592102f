package derive_test

import (
	"math"
	"slices"
	"testing"

	"rampart/api"
	"rampart/derive"
)

// The chapter's example.
func TestExample(t *testing.T) {
	f := made(t, 4)
	for i, e := range []api.Errno{f.Root(0), f.Derive(0, 2), f.Derive(0, 1), f.Derive(2, 3)} {
		if e != api.OK {
			t.Errorf("%d: %d", i, e)
		}
	}
	if l := below(f, 0); !slices.Equal(l, []int{2, 3, 1}) {
		t.Errorf("Below(0): %v", l)
	}
	if l, e := f.Prune(2); !slices.Equal(l, []int{3}) || e != api.OK {
		t.Errorf("Prune(2) = %v, %d", l, e)
	}
	if l, e := f.Cut(0); !slices.Equal(l, []int{0, 2, 1}) || e != api.OK {
		t.Errorf("Cut(0) = %v, %d", l, e)
	}
}

// P12.1

// Just what is from 0 to 1024 is made; none is there.
func TestNew(t *testing.T) {
	for _, n := range []int{0, 1, 2, 63, 64, 65, 127, 128, 1023, 1024} {
		f := made(t, n)
		if f.Len() != 0 {
			t.Errorf("New(%d): %d are there", n, f.Len())
		}
		for node := -1; node <= n; node++ {
			if up, ok := f.Parent(node); f.Has(node) || f.Depth(node) != -1 || up != 0 || ok || f.Under(node, node) || below(f, node) != nil {
				t.Fatalf("New(%d): node %d is there", n, node)
			}
		}
	}
	for _, n := range []int{-1, -2, -1024, 1025, 1026, 2048, 65536, 1 << 32, 1<<32 + 1, -1 << 32, math.MinInt, math.MaxInt} {
		if f, e := derive.New(n); f != nil || e != 1 {
			t.Errorf("New(%d) = %v, %d", n, f, e)
		}
	}
}

// There are just so many nodes, up to the last one; each number beside them is none's, for every call.
func TestNewHasThese(t *testing.T) {
	for _, n := range []int{0, 1, 2, 63, 64, 65, 1023, 1024} {
		f := made(t, n)
		for node := range n {
			if e := f.Root(node); e != api.OK {
				t.Fatalf("%d nodes: Root(%d) = %d", n, node, e)
			}
		}
		for _, node := range append(far, n, n+1, n+63, n+64) {
			if node >= 0 && node < n {
				continue
			}
			for _, d := range []deed{{"Root", node, 0}, {"Derive", node, 0}, {"Derive", 0, node}, {"Derive", node, node}, {"Cut", node, 0}, {"Prune", node, 0}} {
				if got := do(f, d); got != (told{e: 120}) {
					t.Errorf("%d nodes: %v: %+v", n, d, got)
				}
			}
			for _, d := range []deed{{"Has", node, 0}, {"Parent", node, 0}, {"Under", node, 0}, {"Under", 0, node}, {"Under", node, node}, {"Below", node, 0}} {
				if got := do(f, d); got != (told{}) {
					t.Errorf("%d nodes: %v: %+v", n, d, got)
				}
			}
			if f.Depth(node) != -1 {
				t.Errorf("%d nodes: Depth(%d) = %d", n, node, f.Depth(node))
			}
		}
		if f.Len() != n {
			t.Errorf("%d nodes: Len() = %d", n, f.Len())
		}
	}
}

func TestRoot(t *testing.T) {
	f, p := grown(t, 4, plainNode{2, none}, plainNode{0, none}, plainNode{3, 2})
	for node := range 4 {
		if up, ok := f.Parent(node); ok != (node == 3) || up != max(0, 2*node-4) {
			t.Errorf("Parent(%d) = %d, %v", node, up, ok)
		}
	}
	for _, node := range []int{2, 0, 3} {
		if e := f.Root(node); e != 121 {
			t.Errorf("Root(%d) = %d", node, e)
		}
		stands(t, f, p, "Root again of", node)
	}
	must(t, f, p, deed{"Root", 1, 0})
	stands(t, f, p, "the last one")
}

// The last one, each time; of a root, of one that was derived, of one from which others were.
func TestDerive(t *testing.T) {
	f, p := grown(t, 7, plainNode{6, none})
	for _, d := range []deed{{"Derive", 6, 0}, {"Derive", 6, 4}, {"Derive", 0, 5}, {"Derive", 6, 1}, {"Derive", 5, 2}, {"Derive", 0, 3}} {
		must(t, f, p, d)
		stands(t, f, p, d)
	}
	if l := below(f, 6); !slices.Equal(l, []int{0, 5, 2, 3, 4, 1}) {
		t.Errorf("Below(6): %v", l)
	}
}

// What is refused, and that nothing comes of it.
func TestDeriveRefused(t *testing.T) {
	for _, x := range []struct {
		parent, node int
		want         api.Errno
	}{
		{0, 5, 121}, {0, 1, 121}, {0, 0, 121}, {7, 0, 121}, {5, 5, 121}, {1, 2, 121}, // there already: elsewhere, there, itself, above it
		{4, 6, 122}, {6, 4, 122}, {4, 4, 122}, {6, 6, 122}, // from one that is not there, from itself
		{4, 5, 121}, {6, 0, 121}, // there already, and the parent is not there
		{-1, 5, 120}, {-1, 4, 120}, {9, 5, 120}, {0, -1, 120}, {4, -1, 120}, {4, 9, 120}, {0, 9, 120}, {-1, -1, 120}, {9, 9, 120}, {-1, 9, 120}, {9, -1, 120},
		{math.MinInt, 5, 120}, {4, math.MaxInt, 120}, {1024, 0, 120}, {0, 1024, 120}, {1 << 32, 4, 120}, {0, 1<<32 + 4, 120},
	} {
		f, p := family(t)
		if e := f.Derive(x.parent, x.node); e != x.want {
			t.Errorf("Derive(%d, %d) = %d, want %d", x.parent, x.node, e, x.want)
		}
		stands(t, f, p, x)
	}
}

// P12.2

func TestCut(t *testing.T) {
	for node, want := range map[int][]int{
		0: {0, 2, 3, 7, 1, 8}, // a root
		2: {2, 3, 7},          // the first one derived
		3: {3, 7},             // in the middle
		7: {7},                // a leaf
		1: {1},                // a leaf between others
		8: {8},                // the last one derived
		5: {5},                // a root that is a leaf
	} {
		f, p := family(t)
		if l, e := f.Cut(node); !slices.Equal(l, want) || e != api.OK {
			t.Errorf("Cut(%d) = %v, %d, want %v", node, l, e, want)
		}
		p.do(deed{"Cut", node, 0})
		stands(t, f, p, "Cut", node)
		for _, gone := range want {
			if l, e := f.Cut(gone); l != nil || e != 122 {
				t.Errorf("Cut(%d) behind Cut(%d) = %v, %d", gone, node, l, e)
			}
			if l, e := f.Prune(gone); l != nil || e != 122 {
				t.Errorf("Prune(%d) behind Cut(%d) = %v, %d", gone, node, l, e)
			}
		}
		stands(t, f, p, "Cut twice", node)
	}
}

func TestPrune(t *testing.T) {
	for node, want := range map[int][]int{0: {2, 3, 7, 1, 8}, 2: {3, 7}, 3: {7}, 7: nil, 1: nil, 8: nil, 5: nil} {
		f, p := family(t)
		if l, e := f.Prune(node); !slices.Equal(l, want) || e != api.OK {
			t.Errorf("Prune(%d) = %v, %d, want %v", node, l, e, want)
		}
		p.do(deed{"Prune", node, 0})
		stands(t, f, p, "Prune", node)
		if l, e := f.Prune(node); len(l) != 0 || e != api.OK {
			t.Errorf("Prune(%d) again = %v, %d", node, l, e)
		}
		stands(t, f, p, "Prune twice", node)
	}
}

// One that is not there, or never was, and numbers that are none's.
func TestCutOfNone(t *testing.T) {
	f, p := family(t)
	for _, kind := range []string{"Cut", "Prune"} {
		for _, node := range []int{4, 6} {
			if got := do(f, deed{kind, node, 0}); got != (told{e: 122}) {
				t.Errorf("%s(%d): %+v", kind, node, got)
			}
		}
		for _, node := range append(far, 9, 10) {
			if got := do(f, deed{kind, node, 0}); got != (told{e: 120}) {
				t.Errorf("%s(%d): %+v", kind, node, got)
			}
		}
	}
	stands(t, f, p, "refused")
}

// Nodes that went and came again are the last ones, wherever they were before, with nothing of what was below them.
func TestCameAgain(t *testing.T) {
	f, p := family(t)
	for _, d := range []deed{
		{"Cut", 2, 0}, {"Derive", 0, 2}, // behind 1 and 8
		{"Derive", 2, 7}, {"Derive", 2, 3}, // 7 was below 3
		{"Cut", 1, 0}, {"Derive", 3, 1},
		{"Prune", 0, 0}, {"Derive", 0, 8}, {"Derive", 8, 2}, {"Derive", 0, 3},
		{"Cut", 0, 0}, {"Derive", 5, 0}, {"Root", 8, 0}, {"Derive", 8, 3}, {"Derive", 0, 2},
		{"Cut", 5, 0}, {"Root", 2, 0}, {"Derive", 3, 5},
	} {
		must(t, f, p, d)
		stands(t, f, p, d)
	}
	for node, want := range map[int][]int{8: {3, 5}, 3: {5}, 2: nil} {
		if l := below(f, node); !slices.Equal(l, want) {
			t.Errorf("Below(%d): %v, want %v", node, l, want)
		}
	}
	if f.Len() != 4 {
		t.Errorf("Len() = %d", f.Len())
	}
}

// P12.3

func TestHas(t *testing.T) {
	f, _ := family(t)
	for _, node := range []int{0, 1, 2, 3, 5, 7, 8} {
		if !f.Has(node) {
			t.Errorf("Has(%d) = false", node)
		}
	}
	for _, node := range append(far, 4, 6, 9, 10, 64, 72) {
		if f.Has(node) {
			t.Errorf("Has(%d) = true", node)
		}
	}
}

func TestParentAndDepth(t *testing.T) {
	f, _ := family(t)
	for node, want := range map[int]struct {
		up    int
		ok    bool
		depth int
	}{
		0: {0, false, 0}, 5: {0, false, 0}, 1: {0, true, 1}, 2: {0, true, 1}, 8: {0, true, 1}, 3: {2, true, 2}, 7: {3, true, 3},
		4: {0, false, -1}, 6: {0, false, -1}, 9: {0, false, -1}, -1: {0, false, -1}, math.MinInt: {0, false, -1}, math.MaxInt: {0, false, -1}, 1024: {0, false, -1},
	} {
		if up, ok := f.Parent(node); up != want.up || ok != want.ok {
			t.Errorf("Parent(%d) = %d, %v", node, up, ok)
		}
		if n := f.Depth(node); n != want.depth {
			t.Errorf("Depth(%d) = %d, want %d", node, n, want.depth)
		}
	}
}

func TestUnder(t *testing.T) {
	f, _ := family(t)
	above := map[int][]int{0: {0}, 1: {1, 0}, 2: {2, 0}, 3: {3, 2, 0}, 5: {5}, 7: {7, 3, 2, 0}, 8: {8, 0}}
	for node := -1; node <= 9; node++ {
		for root := -1; root <= 9; root++ {
			if got := f.Under(node, root); got != slices.Contains(above[node], root) {
				t.Errorf("Under(%d, %d) = %v", node, root, got)
			}
		}
	}
}

func TestLen(t *testing.T) {
	f := made(t, 1024)
	for n := range 1024 {
		if f.Len() != n {
			t.Fatalf("Len() = %d, want %d", f.Len(), n)
		}
		if e := f.Root((n*77 + 5) % 1024); e != api.OK {
			t.Fatalf("Root(%d) = %d", (n*77+5)%1024, e)
		}
	}
	for n := range 1024 {
		if f.Len() != 1024-n {
			t.Fatalf("Len() = %d, want %d", f.Len(), 1024-n)
		}
		f.Cut(n)
	}
	if f.Len() != 0 {
		t.Errorf("Len() = %d", f.Len())
	}
}

// All 1024 nodes, each derived from the one before it.
func TestChain(t *testing.T) {
	f := made(t, 1024)
	chain := make([]int, 1024)
	for i := range chain {
		chain[i] = (i*389 + 1000) % 1024
		x := plainNode{chain[i], none}
		if i > 0 {
			x.parent = chain[i-1]
		}
		if got := do(f, x.deed()); got != (told{}) {
			t.Fatalf("%d: %v: %+v", i, x.deed(), got)
		}
	}
	for i, node := range chain {
		if f.Depth(node) != i || !f.Under(chain[1023], node) || !f.Under(node, chain[0]) || f.Under(chain[0], node) != (i == 0) {
			t.Fatalf("node %d at depth %d is at %d", node, i, f.Depth(node))
		}
		if up, ok := f.Parent(node); ok != (i > 0) || ok && up != chain[i-1] {
			t.Fatalf("Parent(%d) = %d, %v", node, up, ok)
		}
		if i%100 == 0 && !slices.Equal(below(f, node), chain[i+1:]) {
			t.Fatalf("Below(%d)", node)
		}
	}
	if l, e := f.Prune(chain[700]); !slices.Equal(l, chain[701:]) || e != api.OK || f.Len() != 701 {
		t.Errorf("Prune in the middle: %d nodes, %d", len(l), e)
	}
	if l, e := f.Cut(chain[0]); !slices.Equal(l, chain[:701]) || e != api.OK || f.Len() != 0 {
		t.Errorf("Cut of the root: %d nodes, %d", len(l), e)
	}
}

// One node with 1023 derived from it.
func TestStar(t *testing.T) {
	f := made(t, 1024)
	var star []int
	if e := f.Root(640); e != api.OK {
		t.Fatal(e)
	}
	for i := range 1024 {
		node := (i*389 + 1000) % 1024
		if node == 640 {
			continue
		}
		star = append(star, node)
		if e := f.Derive(640, node); e != api.OK {
			t.Fatalf("Derive(640, %d) = %d", node, e)
		}
	}
	if !slices.Equal(below(f, 640), star) || f.Len() != 1024 {
		t.Error("Below")
	}
	for i, node := range star {
		if up, ok := f.Parent(node); up != 640 || !ok || f.Depth(node) != 1 || !f.Under(node, 640) || f.Under(640, node) || f.Under(node, star[(i+1)%1023]) {
			t.Fatalf("node %d: parent %d, %v, depth %d", node, up, ok, f.Depth(node))
		}
	}
	for _, i := range []int{1022, 500, 0} {
		if l, e := f.Cut(star[i]); !slices.Equal(l, []int{star[i]}) || e != api.OK {
			t.Fatalf("Cut(%d) = %v, %d", star[i], l, e)
		}
		star = slices.Delete(star, i, i+1)
	}
	if l, e := f.Prune(640); !slices.Equal(l, star) || e != api.OK || f.Len() != 1 || !f.Has(640) {
		t.Errorf("Prune: %d nodes, %d", len(l), e)
	}
}
