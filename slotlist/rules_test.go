package slotlist_test

import (
	"math"
	"slices"
	"testing"

	"rampart/api"
	"rampart/slotlist"
)

// Rules 1 and 3: lists that are nil, or that New did not make, whatever they are asked.
func TestNotMade(t *testing.T) {
	numbers := []int{-1, 0, 1, math.MinInt, math.MaxInt, api.MaxNodes}
	for name, l := range map[string]*slotlist.Lists{"nil": nil, "hand-made": {}, "new": new(slotlist.Lists)} {
		for _, a := range numbers {
			for _, b := range numbers {
				for _, kind := range kinds() {
					want := told{e: 4}
					if kind == "Pop" {
						want = told{}
					}
					if got := do(l, deed{kind, a, b}); got != want {
						t.Errorf("%s: %s(%d, %d) = %v", name, kind, a, b, got)
					}
				}
			}
			if k, ok := l.Of(a); k != 0 || ok {
				t.Errorf("%s: Of(%d) = %d, %v", name, a, k, ok)
			}
			if n := l.Len(a); n != 0 {
				t.Errorf("%s: Len(%d) = %d", name, a, n)
			}
			for way, w := range ways(l, a) {
				if w.told == nil {
					t.Fatalf("%s: %s(%d) = nil", name, way, a)
				}
				for n := range w.told {
					t.Errorf("%s: %s(%d) tells %d", name, way, a, n)
				}
				w.told(nil)
			}
		}
	}
}

// Rules 1 and 2: all rows of four deeds to three nodes and two lists tell what the plain lists tell.
func TestAllShortRows(t *testing.T) {
	var deeds []deed
	for k := range 2 {
		deeds = append(deeds, deed{"Pop", k, 0}, deed{"Take", k, 0}, deed{"Take", k, 1})
		for n := range 3 {
			deeds = append(deeds, deed{"Push", k, n}, deed{"PushFront", k, n}, deed{"Move", k, n})
			if k == 0 {
				deeds = append(deeds, deed{"Drop", 0, n})
			}
		}
	}
	row := make([]deed, 4)
	for i := range len(deeds) * len(deeds) * len(deeds) * len(deeds) {
		for at := range row {
			row[at] = deeds[i%len(deeds)]
			i /= len(deeds)
		}
		endsAlike(t, row)
	}
}

// endsAlike does deeds to three nodes and two lists, looks at what each tells, and at how the lists stand in the end.
func endsAlike(t *testing.T, deeds []deed) {
	l, p := made(t, 3, 2), &plain{nodes: 3, lists: make([][]int, 2)}
	for _, d := range deeds {
		if got, want := do(l, d), p.do(d); got != want {
			t.Fatalf("%v: at %v %v, want %v", deeds, d, got, want)
		}
	}
	if s := wrong(l, p); s != "" {
		t.Fatalf("%v: %s", deeds, s)
	}
}

// P5.2 to P5.5, rules 1 and 2: long rows of deeds, wrong ones among them.
func TestLongRows(t *testing.T) {
	d := dice(5)
	for range 300 {
		nodes, lists := d.to(12), d.to(6)
		follow(t, nodes, lists, d.deeds(200, nodes, lists))
	}
	follow(t, 60, 3, d.deeds(3000, 60, 3))
	follow(t, 5, 40, d.deeds(2000, 5, 40))
}

// P5.5: all lists together have each node that Of tells of once, in the list that Of tells; no other.
func TestEachOnce(t *testing.T) {
	d := dice(55)
	l := made(t, 40, 5)
	for range 3000 {
		do(l, d.deeds(1, 40, 5)[0])
		seen := make([]int, 40)
		for k := range 5 {
			for n := range l.All(k) {
				seen[n]++
				if of, ok := l.Of(n); of != k || !ok {
					t.Fatalf("list %d has node %d, Of tells %d, %v", k, n, of, ok)
				}
			}
		}
		for n, times := range seen {
			if _, ok := l.Of(n); ok && times != 1 || !ok && times != 0 {
				t.Fatalf("node %d is told %d times, Of tells %v", n, times, ok)
			}
		}
	}
}

// P5.6: what is pushed first is popped first, each list for itself.
func TestQueues(t *testing.T) {
	const nodes, lists = 30, 3
	d := dice(56)
	l := made(t, nodes, lists)
	var queues [lists][]int
	free := make([]int, nodes)
	for n := range free {
		free[n] = n
	}
	for range 5000 {
		k := d.to(lists)
		if len(free) > 0 && d.to(2) == 0 {
			i := d.to(len(free))
			if e := l.Push(k, free[i]); e != api.OK {
				t.Fatalf("Push(%d, %d) = %d", k, free[i], e)
			}
			queues[k] = append(queues[k], free[i])
			free = slices.Delete(free, i, i+1)
			continue
		}
		n, ok := l.Pop(k)
		if ok != (len(queues[k]) > 0) || ok && n != queues[k][0] || !ok && n != 0 {
			t.Fatalf("Pop(%d) = %d, %v of %v", k, n, ok, queues[k])
		}
		if ok {
			free = append(free, n)
			queues[k] = queues[k][1:]
		}
	}
}

// Rule 5: lists that are given the same tell the same, whatever others are given meanwhile, or are asked.
func TestApart(t *testing.T) {
	d := dice(57)
	deeds := d.deeds(500, 9, 4)
	alone, asked, other := made(t, 9, 4), made(t, 9, 4), made(t, 9, 4)
	p := &plain{nodes: 9, lists: make([][]int, 4)}
	for _, x := range deeds {
		want := do(alone, x)
		do(other, d.deeds(1, 9, 4)[0])
		for n := range 9 {
			asked.Of(n)
			asked.Len(n)
			for range asked.All(n) {
				break
			}
			for range asked.Back(n) {
			}
		}
		if got := do(asked, x); got != want {
			t.Fatalf("%v: %v, and %v", x, got, want)
		}
		p.do(x)
	}
	for _, l := range []*slotlist.Lists{alone, asked} {
		if s := wrong(l, p); s != "" {
			t.Error(s)
		}
	}
}

// As many nodes and lists as may be.
func TestMost(t *testing.T) {
	const most = api.MaxNodes
	l := made(t, most, most)
	var want []int
	for n := range most {
		if e := l.Push(n, most-1-n); e != api.OK {
			t.Fatalf("Push(%d, %d) = %d", n, most-1-n, e)
		}
		want = append(want, most-1-n)
	}
	for k := 1; k < most; k++ {
		if e := l.Take(0, k); e != api.OK {
			t.Fatalf("Take(0, %d) = %d", k, e)
		}
	}
	for i := range 1 << 20 {
		if e := l.Take((i+1)%most, i%most); e != api.OK {
			t.Fatalf("Take %d: %d", i, e)
		}
	}
	if l.Len(0) != most || !slices.Equal(all(l, 0), want) {
		t.Errorf("list 0 has %d nodes", l.Len(0))
	}
	slices.Reverse(want)
	if !slices.Equal(slices.Collect(l.Back(0)), want) {
		t.Error("Back")
	}
	for n := range most {
		if k, ok := l.Of(n); k != 0 || !ok {
			t.Fatalf("Of(%d) = %d, %v", n, k, ok)
		}
	}
}

// No call makes anything new.
func TestNothingNew(t *testing.T) {
	l := made(t, 8, 3)
	n := testing.AllocsPerRun(100, func() {
		for i := range 8 {
			l.Push(i%2, i)
		}
		l.Move(2, 3)
		l.PushFront(0, 4)
		l.Take(2, 0)
		l.Take(2, 1)
		l.Of(3)
		l.Drop(5)
		for l.Len(2) > 0 {
			l.Pop(2)
		}
	})
	if n != 0 {
		t.Errorf("%v new things", n)
	}
}

// Any bytes, read as deeds.
func FuzzLists(f *testing.F) {
	f.Add([]byte{4, 2, 0, 0, 1, 0, 0, 2, 5, 1, 0, 2, 1, 0, 3, 0, 2, 4, 1, 3, 5, 0, 1})
	f.Add([]byte{0, 0, 2, 0, 0})
	f.Add([]byte{})
	f.Fuzz(func(t *testing.T, b []byte) {
		if len(b) < 2 || len(b) > 400 {
			return
		}
		var deeds []deed
		for c := range slices.Chunk(b[2:], 3) {
			if len(c) == 3 {
				deeds = append(deeds, deed{kinds()[c[0]%6], int(int8(c[1])), int(int8(c[2]))})
			}
		}
		follow(t, int(b[0])%20, int(b[1])%20, deeds)
	})
}
