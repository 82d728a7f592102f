package derive_test

import (
	"slices"
	"testing"

	"rampart/api"
	"rampart/derive"
)

// P12.4: each node that is there is a root, or below just one root; none is below itself.
func TestTrees(t *testing.T) {
	d := dice(124)
	for _, nodes := range []int{1, 2, 5, 40, 70} {
		f, p := made(t, nodes), &plain{nodes: nodes}
		for _, x := range d.deeds(600, p) {
			do(f, x)
			seen := make([]int, nodes)
			for root := range nodes {
				if _, derived := f.Parent(root); derived || !f.Has(root) {
					continue
				}
				seen[root]++
				for n := range f.Below(root) {
					seen[n]++
				}
			}
			for n, times := range seen {
				if f.Has(n) && times != 1 || !f.Has(n) && times != 0 {
					t.Fatalf("%d nodes: node %d is told %d times", nodes, n, times)
				}
				if slices.Contains(below(f, n), n) {
					t.Fatalf("%d nodes: node %d is below itself", nodes, n)
				}
			}
		}
	}
}

// all is what a forest tells of each node, and what is below it but nodes that went.
func all(f *derive.Forest, nodes int, gone []int) [][]told {
	var rows [][]told
	for n := range nodes {
		rest := slices.DeleteFunc(below(f, n), func(x int) bool { return slices.Contains(gone, x) })
		rows = append(rows, []told{do(f, deed{"Has", n, 0}), do(f, deed{"Parent", n, 0}), do(f, deed{"Depth", n, 0}), {list: text(rest)}})
	}
	return rows
}

// P12.5: Cut and Prune take just what is told, each once, and what was below; all else is as it was.
func TestJustThese(t *testing.T) {
	d := dice(125)
	taken := 0
	for _, nodes := range []int{1, 3, 12, 66} {
		f, p := made(t, nodes), &plain{nodes: nodes}
		for _, x := range d.deeds(2000, p) {
			size, was := f.Len(), append([]int{x.a}, below(f, x.a)...)
			if x.kind == "Prune" {
				was = was[1:]
			}
			if x.kind != "Cut" && x.kind != "Prune" || !f.Has(x.a) {
				do(f, x)
				continue
			}
			old := all(f, nodes, was)
			if got := do(f, x); got != (told{list: text(was)}) {
				t.Fatalf("%d nodes, %v: %+v, want %v", nodes, x, got, was)
			}
			taken += len(was)
			for n, row := range all(f, nodes, nil) {
				if gone := slices.Contains(was, n); gone && f.Has(n) || !gone && !slices.Equal(row, old[n]) {
					t.Fatalf("%d nodes, %v of %v: node %d is %v, was %v", nodes, x, was, n, row, old[n])
				}
			}
			if f.Len() != size-len(was) {
				t.Fatalf("%d nodes, %v of %v: %d are left of %d", nodes, x, was, f.Len(), size)
			}
		}
	}
	if taken < 1000 {
		t.Errorf("no more than %d went", taken)
	}
}

// upward is what Has, Parent and Depth tell of a node.
func upward(f *derive.Forest, n int) [3]told {
	return [3]told{do(f, deed{"Has", n, 0}), do(f, deed{"Parent", n, 0}), do(f, deed{"Depth", n, 0})}
}

// P12.6: what they tell of a node hangs on no Cut or Prune of one that it is not under, and on nothing that is derived from it.
func TestUpward(t *testing.T) {
	d := dice(126)
	held := 0
	for _, nodes := range []int{2, 6, 50} {
		f, p := made(t, nodes), &plain{nodes: nodes}
		for _, x := range d.deeds(900, p) {
			var old [][3]told
			var touched []bool
			for n := range nodes {
				old = append(old, upward(f, n))
				comes := x.kind == "Root" && x.a == n || x.kind == "Derive" && x.b == n
				goes := (x.kind == "Cut" || x.kind == "Prune") && f.Under(n, x.a)
				touched = append(touched, comes || goes)
			}
			do(f, x)
			for n := range nodes {
				if touched[n] {
					continue
				}
				held++
				if got := upward(f, n); got != old[n] {
					t.Fatalf("%d nodes, %v: node %d: %v, was %v", nodes, x, n, got, old[n])
				}
			}
		}
	}
	if held < 1000 {
		t.Errorf("no more than %d were held against what they were", held)
	}
}

// P12.6: Prune leaves the node itself as it was.
func TestPrunedItself(t *testing.T) {
	for node := range 9 {
		f, _ := family(t)
		old := upward(f, node)
		f.Prune(node)
		if got := upward(f, node); got != old {
			t.Errorf("node %d: %v, was %v", node, got, old)
		}
	}
}

// P12.4: a node cannot be derived from what is below it, however it is tried.
func TestNoRounds(t *testing.T) {
	f, p := family(t)
	for parent := range 9 {
		for node := range 9 {
			if p.has(parent) && p.has(node) && f.Derive(parent, node) != api.ErrThere {
				t.Errorf("Derive(%d, %d)", parent, node)
			}
		}
	}
	stands(t, f, p, "tried")
}
