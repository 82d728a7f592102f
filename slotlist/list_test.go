package slotlist_test

import (
	"math"
	"slices"
	"testing"

	"rampart/api"
	"rampart/slotlist"
)

// P5.1: just what is from 0 to 65536 is made; none of its nodes is in a list, and its lists are empty.
func TestNew(t *testing.T) {
	good := []int{0, 1, 2, 65535, 65536}
	bad := []int{-1, 65537, math.MinInt, math.MaxInt, 1 << 32, 1<<32 + 1, -65536}
	for _, n := range good {
		for _, m := range good {
			l := made(t, n, m)
			for _, k := range []int{0, 1, m / 2, m - 1, m, -1} {
				if l.Len(k) != 0 || all(l, k) != nil || slices.Collect(l.Back(k)) != nil {
					t.Errorf("New(%d, %d): list %d is not empty", n, m, k)
				}
			}
			for x := range n {
				if k, ok := l.Of(x); k != 0 || ok {
					t.Fatalf("New(%d, %d): node %d is in %d", n, m, x, k)
				}
			}
		}
		for _, m := range bad {
			for _, a := range [][2]int{{n, m}, {m, n}, {m, m}} {
				if l, e := slotlist.New(a[0], a[1]); l != nil || e != 1 {
					t.Errorf("New(%d, %d) = %v, %d", a[0], a[1], l, e)
				}
			}
		}
	}
}

// P5.1: there are just so many nodes and lists, up to the last ones.
func TestNewHasThese(t *testing.T) {
	for _, n := range []int{0, 1, 3, 65536} {
		for _, m := range []int{0, 1, 3, 65536} {
			l := made(t, n, m)
			want := api.OK
			if n == 0 || m == 0 {
				want = 5
			}
			if e := l.Push(m-1, n-1); e != want {
				t.Errorf("%d, %d: Push of the last ones: %d, want %d", n, m, e, want)
			}
			if e := l.Move(0, 0); e != want {
				t.Errorf("%d, %d: Move of the first ones: %d, want %d", n, m, e, want)
			}
			for _, a := range [][2]int{{m, n - 1}, {m - 1, n}, {m, n}, {-1, 0}, {0, -1}, {-1, -1}} {
				if e := l.Push(a[0], a[1]); e != 5 {
					t.Errorf("%d, %d: Push(%d, %d) = %d", n, m, a[0], a[1], e)
				}
			}
		}
	}
}

// The chapter's example.
func TestExample(t *testing.T) {
	l := made(t, 4, 1)
	for i, e := range []api.Errno{l.Push(0, 3), l.PushFront(0, 1), l.Move(0, 3), l.Push(0, 2)} {
		if e != api.OK {
			t.Errorf("%d: %d", i, e)
		}
	}
	stand(t, "pushed", l, 4, []int{1, 3, 2})
	if n, ok := l.Pop(0); n != 1 || !ok {
		t.Errorf("Pop = %d, %v", n, ok)
	}
	stand(t, "popped", l, 4, []int{3, 2})
}

// P5.2: the last one, the first one; of an empty list both.
func TestPush(t *testing.T) {
	l := made(t, 6, 3)
	for _, d := range []deed{{"Push", 1, 4}, {"Push", 1, 0}, {"PushFront", 1, 5}, {"PushFront", 2, 3}, {"PushFront", 2, 1}, {"Push", 2, 2}} {
		if got := do(l, d); got != (told{}) {
			t.Errorf("%v: %v", d, got)
		}
	}
	stand(t, "pushed", l, 6, nil, []int{5, 4, 0}, []int{1, 3, 2})
}

// P5.2: a node that is in a list, this one or another one, first, last, between or alone, is pushed nowhere, and stays.
func TestPushIn(t *testing.T) {
	for _, kind := range []string{"Push", "PushFront"} {
		for node := range 4 {
			for list := range 3 {
				l := filled(t, 5, []int{0, 1, 2}, []int{3}, nil)
				if got := do(l, deed{kind, list, node}); got != (told{e: 50}) {
					t.Errorf("%s(%d, %d) = %v", kind, list, node, got)
				}
				stand(t, kind, l, 5, []int{0, 1, 2}, []int{3}, nil)
			}
		}
	}
}

// P5.2: the first one each time, till none is left.
func TestPop(t *testing.T) {
	l := filled(t, 4, []int{2, 0, 3}, []int{1})
	for _, want := range []told{{n: 2, ok: true}, {n: 0, ok: true}, {n: 3, ok: true}, {}, {}} {
		if got := do(l, deed{kind: "Pop"}); got != want {
			t.Errorf("Pop = %v, want %v", got, want)
		}
	}
	stand(t, "popped", l, 4, nil, []int{1})
	for _, k := range []int{-1, 2, 3, 4, math.MinInt, math.MaxInt, api.MaxNodes} {
		if n, ok := l.Pop(k); n != 0 || ok {
			t.Errorf("Pop(%d) = %d, %v", k, n, ok)
		}
	}
	stand(t, "nothing popped", l, 4, nil, []int{1})
	if e := l.Push(0, 2); e != api.OK {
		t.Errorf("Push of what was popped: %d", e)
	}
}

// P5.2: the first, the last, one between, the only one; then it is in none, and may be pushed again.
func TestDrop(t *testing.T) {
	for node, want := range [][][]int{{{1, 2}, {3}}, {{0, 2}, {3}}, {{0, 1}, {3}}, {{0, 1, 2}, nil}} {
		l := filled(t, 5, []int{0, 1, 2}, []int{3})
		if e := l.Drop(node); e != api.OK {
			t.Errorf("Drop(%d) = %d", node, e)
		}
		stand(t, "dropped", l, 5, want...)
		if e := l.Drop(node); e != 51 {
			t.Errorf("Drop(%d) again = %d", node, e)
		}
		stand(t, "dropped twice", l, 5, want...)
		if e := l.Push(1, node); e != api.OK {
			t.Errorf("Push(1, %d) = %d", node, e)
		}
		want[1] = append(want[1], node)
		stand(t, "pushed again", l, 5, want...)
	}
	l := filled(t, 5, []int{0, 1, 2}, []int{3})
	if e := l.Drop(4); e != 51 {
		t.Errorf("Drop of a node that never was in a list: %d", e)
	}
}

// P5.3: out of the list in which it is, wherever it is there, or out of none; the list may be the same one.
func TestMove(t *testing.T) {
	for _, c := range []struct {
		list, node int
		want       [][]int
	}{
		{0, 0, [][]int{{1, 2, 0}, {3}, nil}},
		{0, 1, [][]int{{0, 2, 1}, {3}, nil}},
		{0, 2, [][]int{{0, 1, 2}, {3}, nil}},
		{0, 3, [][]int{{0, 1, 2, 3}, nil, nil}},
		{0, 4, [][]int{{0, 1, 2, 4}, {3}, nil}},
		{1, 0, [][]int{{1, 2}, {3, 0}, nil}},
		{1, 1, [][]int{{0, 2}, {3, 1}, nil}},
		{1, 2, [][]int{{0, 1}, {3, 2}, nil}},
		{1, 3, [][]int{{0, 1, 2}, {3}, nil}},
		{1, 4, [][]int{{0, 1, 2}, {3, 4}, nil}},
		{2, 0, [][]int{{1, 2}, {3}, {0}}},
		{2, 1, [][]int{{0, 2}, {3}, {1}}},
		{2, 2, [][]int{{0, 1}, {3}, {2}}},
		{2, 3, [][]int{{0, 1, 2}, nil, {3}}},
		{2, 4, [][]int{{0, 1, 2}, {3}, {4}}},
	} {
		l := filled(t, 5, []int{0, 1, 2}, []int{3}, nil)
		if e := l.Move(c.list, c.node); e != api.OK {
			t.Errorf("Move(%d, %d) = %d", c.list, c.node, e)
		}
		stand(t, "moved", l, 5, c.want...)
	}
}

// P5.3: behind those of the other list; of an empty one, into an empty one, into itself.
func TestTake(t *testing.T) {
	for _, c := range []struct {
		to, from int
		want     [][]int
	}{
		{0, 0, [][]int{{4, 1, 2}, {3, 5}, nil, nil}},
		{0, 1, [][]int{{4, 1, 2, 3, 5}, nil, nil, nil}},
		{0, 2, [][]int{{4, 1, 2}, {3, 5}, nil, nil}},
		{1, 0, [][]int{nil, {3, 5, 4, 1, 2}, nil, nil}},
		{2, 0, [][]int{nil, {3, 5}, {4, 1, 2}, nil}},
		{2, 2, [][]int{{4, 1, 2}, {3, 5}, nil, nil}},
		{2, 3, [][]int{{4, 1, 2}, {3, 5}, nil, nil}},
		{3, 1, [][]int{{4, 1, 2}, nil, nil, {3, 5}}},
	} {
		l := filled(t, 6, []int{4, 1, 2}, []int{3, 5}, nil, nil)
		if e := l.Take(c.to, c.from); e != api.OK {
			t.Errorf("Take(%d, %d) = %d", c.to, c.from, e)
		}
		stand(t, "taken", l, 6, c.want...)
		if e := l.Push(c.from, 0); e != api.OK {
			t.Errorf("Push(%d, 0) = %d", c.from, e)
		}
		c.want[c.from] = append(c.want[c.from], 0)
		stand(t, "pushed where they were", l, 6, c.want...)
	}
}

// P5.2, P5.3: a list or a node that there is not is told ahead of all else, and nothing changes.
func TestRange(t *testing.T) {
	beyond := []int{-1, 4, 5, math.MinInt, math.MaxInt, 1 << 32, api.MaxNodes, -api.MaxNodes}
	l := filled(t, 4, []int{0, 1}, []int{2}, nil, nil)
	for _, x := range beyond {
		for y := range 4 {
			for _, kind := range []string{"Push", "PushFront", "Move", "Take"} {
				for _, d := range []deed{{kind, x, y}, {kind, y, x}, {kind, x, x}} {
					if got := do(l, d); got != (told{e: 5}) {
						t.Errorf("%v: %v", d, got)
					}
				}
			}
		}
		if got := do(l, deed{"Drop", 0, x}); got != (told{e: 5}) {
			t.Errorf("Drop(%d): %v", x, got)
		}
	}
	stand(t, "beyond the range", l, 4, []int{0, 1}, []int{2}, nil, nil)
}

// P5.2, P5.3: nodes and lists have each a range of their own.
func TestRangesApart(t *testing.T) {
	few := made(t, 1, 3)
	many := made(t, 3, 1)
	for _, kind := range []string{"Push", "PushFront", "Move"} {
		if got := do(few, deed{kind, 0, 1}); got != (told{e: 5}) {
			t.Errorf("%s of node 1 of one: %v", kind, got)
		}
		if got := do(many, deed{kind, 1, 0}); got != (told{e: 5}) {
			t.Errorf("%s to list 1 of one: %v", kind, got)
		}
	}
	if e := few.Drop(2); e != 5 {
		t.Errorf("Drop of node 2 of one: %d", e)
	}
	if e := few.Take(2, 1); e != api.OK {
		t.Errorf("Take of list 1 of three: %d", e)
	}
	if e := many.Take(0, 1); e != 5 {
		t.Errorf("Take of list 1 of one: %d", e)
	}
	if e := many.Move(0, 2); e != api.OK {
		t.Errorf("Move of node 2 of three: %d", e)
	}
	stand(t, "few", few, 1, nil, nil, nil)
	stand(t, "many", many, 3, []int{2})
}

// P5.4: the list in which it is; in none, or there is none: 0, false.
func TestOf(t *testing.T) {
	l := filled(t, 4, nil, []int{0, 3}, []int{2})
	for node, want := range map[int]told{
		0: {n: 1, ok: true}, 1: {}, 2: {n: 2, ok: true}, 3: {n: 1, ok: true},
		-1: {}, 4: {}, 5: {}, 6: {}, 7: {}, math.MinInt: {}, math.MaxInt: {}, api.MaxNodes: {},
	} {
		if k, ok := l.Of(node); k != want.n || ok != want.ok {
			t.Errorf("Of(%d) = %d, %v", node, k, ok)
		}
	}
}

// P5.4: how many; of a list that there is not, 0.
func TestLen(t *testing.T) {
	l := filled(t, 4, nil, []int{0, 3}, []int{2})
	for list, want := range map[int]int{0: 0, 1: 2, 2: 1, 3: 0, 4: 0, -1: 0, math.MinInt: 0, math.MaxInt: 0} {
		if n := l.Len(list); n != want {
			t.Errorf("Len(%d) = %d", list, n)
		}
	}
}
