package derive_test

import (
	"math"
	"slices"
	"sync"
	"testing"

	"rampart/api"
	"rampart/derive"
)

// Rules 1 and 3: a forest that is nil, or that New did not make, whatever it is asked.
func TestNotMade(t *testing.T) {
	for name, f := range map[string]*derive.Forest{"nil": nil, "hand-made": {}, "new": new(derive.Forest)} {
		for _, a := range append(far, 0, 1, 63, 64, 1023) {
			for _, b := range append(far, 0, 1, 1023) {
				for _, kind := range changing {
					if got := do(f, deed{kind, a, b}); got != (told{e: 4}) {
						t.Errorf("%s: %s(%d, %d): %+v", name, kind, a, b, got)
					}
				}
				for _, kind := range asking {
					if got := do(f, deed{kind, a, b}); got != (told{}) {
						t.Errorf("%s: %s(%d, %d): %+v", name, kind, a, b, got)
					}
				}
			}
			if f.Below(a) == nil {
				t.Fatalf("%s: Below(%d) = nil", name, a)
			}
			f.Below(a)(nil)
		}
	}
}

// Rule 2: with an error there is no list, not even an empty one's room.
func TestNoListWithAnError(t *testing.T) {
	var nobody *derive.Forest
	f, _ := family(t)
	for _, x := range []struct {
		f    *derive.Forest
		node int
		want api.Errno
	}{{nobody, 0, 4}, {&derive.Forest{}, -1, 4}, {f, -1, 120}, {f, 9, 120}, {f, math.MaxInt, 120}, {f, 4, 122}} {
		if l, e := x.f.Cut(x.node); l != nil || e != x.want {
			t.Errorf("Cut(%d) = %v, %d", x.node, l, e)
		}
		if l, e := x.f.Prune(x.node); l != nil || e != x.want {
			t.Errorf("Prune(%d) = %v, %d", x.node, l, e)
		}
	}
}

// P12.1 to P12.3, rules 1 and 2: all rows of five deeds to a forest of three nodes, refused ones among them.
func TestAllShortRows(t *testing.T) {
	var deeds []deed
	for a := range 3 {
		deeds = append(deeds, deed{"Root", a, 0}, deed{"Cut", a, 0}, deed{"Prune", a, 0})
		for b := range 3 {
			deeds = append(deeds, deed{"Derive", a, b})
		}
	}
	row, n := make([]deed, 5), len(deeds)
	for i := range n * n * n * n * n {
		if deeds[i%n].kind != "Root" { // nothing else changes a forest in which no node is there
			continue
		}
		for at := range row {
			row[at] = deeds[i%n]
			i /= n
		}
		endsAlike(t, row)
	}
}

// endsAlike does deeds to a forest of three nodes, looks at what each tells, and at how the forest stands in the end.
func endsAlike(t *testing.T, deeds []deed) {
	f, p := made(t, 3), &plain{nodes: 3}
	for _, d := range deeds {
		if got, want := do(f, d), p.do(d); got != want {
			t.Fatalf("%v: at %v %+v, want %+v", deeds, d, got, want)
		}
	}
	stands(t, f, p, deeds)
}

// P12.1 to P12.3, rules 1 and 2: long rows of deeds, wrong ones among them.
func TestLongRows(t *testing.T) {
	d := dice(12)
	for nodes := range 14 {
		for range 4 {
			p := &plain{nodes: nodes}
			follow(t, made(t, nodes), p, d.deeds(250, p))
		}
	}
	p := &plain{nodes: 40}
	follow(t, made(t, 40), p, d.deeds(300, p))
}

// P12.1 to P12.3: as many nodes as may be, most of them there, at whatever depth.
func TestGreatForest(t *testing.T) {
	d := dice(13)
	f, p, most := made(t, 1024), &plain{nodes: 1024}, 0
	for i := range 6000 {
		x := deed{"Derive", d.there(p), d.to(1024)}
		if len(p.came) == 0 || i%1500 == 0 {
			x = deed{"Root", d.to(1024), 0}
		} else if i%400 == 399 {
			x = deed{[]string{"Cut", "Prune"}[d.to(2)], d.there(p), 0}
		}
		most = max(most, len(p.came))
		if got, want := do(f, x), p.do(x); got != want {
			t.Fatalf("%d: %v: %+v, want %+v", i, x, got, want)
		}
		if i%500 != 499 {
			continue
		}
		for node := range 1024 {
			for _, kind := range []string{"Has", "Parent", "Depth"} {
				x := deed{kind, node, 0}
				if got, want := do(f, x), p.do(x); got != want {
					t.Fatalf("%d: %v: %+v, want %+v", i, x, got, want)
				}
			}
		}
		for _, x := range []deed{{"Len", 0, 0}, {"Below", d.there(p), 0}, {"Below", d.there(p), 0}, {"Under", d.there(p), d.there(p)}} {
			if got, want := do(f, x), p.do(x); got != want {
				t.Fatalf("%d: %v: %+v, want %+v", i, x, got, want)
			}
		}
	}
	if most < 800 {
		t.Errorf("no more than %d were there at once", most)
	}
}

// Rule 4: what Cut and Prune told may be changed, and added to: neither the forest nor another answer changes.
func TestNewMemory(t *testing.T) {
	f, p := family(t)
	one, _ := f.Prune(2)
	p.do(deed{"Prune", 2, 0})
	two, _ := f.Cut(0)
	p.do(deed{"Cut", 0, 0})
	spoil(one)
	if !slices.Equal(two, []int{0, 2, 1, 8}) {
		t.Errorf("the other answer is %v", two)
	}
	stands(t, f, p, "one changed")
	must(t, f, p, deed{"Root", 0, 0})
	must(t, f, p, deed{"Derive", 0, 3})
	three, _ := f.Prune(0)
	p.do(deed{"Prune", 0, 0})
	must(t, f, p, deed{"Derive", 0, 7})
	four, _ := f.Prune(0)
	p.do(deed{"Prune", 0, 0})
	spoil(two)
	if !slices.Equal(three, []int{3}) || !slices.Equal(four, []int{7}) {
		t.Errorf("what was told is %v, %v", three, four)
	}
	spoil(three)
	if !slices.Equal(four, []int{7}) {
		t.Errorf("what was told is %v", four)
	}
	must(t, f, p, deed{"Derive", 0, 1})
	stands(t, f, p, "all changed")
}

// spoil overwrites a list, and all that lies behind it in its memory.
func spoil(l []int) {
	for i := range l[:cap(l)] {
		l[:cap(l)][i] = 5
	}
}

// Rule 5: asking changes nothing, however often.
func TestAskingChangesNothing(t *testing.T) {
	d := dice(14)
	f, p := made(t, 8), &plain{nodes: 8}
	for _, x := range d.deeds(500, p) {
		for a := -1; a <= 8; a++ {
			for _, kind := range asking {
				do(f, deed{kind, a, d.near(p)})
			}
			for range f.Below(a) {
				break
			}
		}
		if got, want := do(f, x), p.do(x); got != want {
			t.Fatalf("%v: %+v, want %+v", x, got, want)
		}
	}
}

// Rule 5: forests that are given the same tell the same, whatever others are given meanwhile, from several sides at once too.
func TestOthers(t *testing.T) {
	d := dice(15)
	p := &plain{nodes: 20}
	deeds := d.deeds(800, p)
	for _, kind := range asking {
		for a := -1; a <= 20; a++ {
			deeds = append(deeds, deed{kind, a, d.near(p)})
		}
	}
	var want []told
	for _, x := range deeds {
		want = append(want, p.do(x))
	}
	again := func() {
		f, other := made(t, 20), made(t, 30)
		for i, x := range deeds {
			do(other, deed{"Root", i % 30, 0})
			do(other, x)
			if got := do(f, x); got != want[i] {
				t.Errorf("%v: %+v, want %+v", x, got, want[i])
				return
			}
		}
	}
	again()
	var all sync.WaitGroup
	for range 8 {
		all.Go(again)
	}
	all.Wait()
}

// Rule 1: a forest that was copied as a struct is in step with the one that it was copied of, so that no node comes below itself.
func TestCopied(t *testing.T) {
	d := dice(16)
	f, p := made(t, 6), &plain{nodes: 6}
	g := *f
	for i, x := range d.deeds(600, p) {
		who := f
		if i%3 == 0 {
			who = &g
		}
		follow(t, who, p, []deed{x})
		stands(t, f, p, x)
		stands(t, &g, p, x)
	}
}

// Rule 1: any numbers, at each call.
func TestAnyNumbers(t *testing.T) {
	d := dice(17)
	f, p := family(t)
	for range 20000 {
		x := deed{append(changing, asking...)[d.to(10)], d.near(p), d.near(p)}
		if d.to(3) == 0 {
			x.a = d.to(math.MaxInt) - math.MaxInt/2
		}
		if d.to(3) == 0 {
			x.b = d.to(math.MaxInt) - math.MaxInt/2
		}
		if got, want := do(f, x), p.do(x); got != want {
			t.Fatalf("%v: %+v, want %+v", x, got, want)
		}
	}
	stands(t, f, p, "any numbers")
}

// Any bytes, read as deeds: the first says how many nodes there are.
func FuzzForest(f *testing.F) {
	f.Add([]byte{4, 0, 0, 0, 1, 0, 2, 1, 0, 1, 1, 2, 3, 3, 2, 0, 2, 0, 0})
	f.Add([]byte{0, 0, 0, 0})
	f.Add([]byte{})
	f.Fuzz(func(t *testing.T, b []byte) {
		if len(b) == 0 || len(b) > 600 {
			return
		}
		nodes := int(b[0]) % 12
		g, p := made(t, nodes), &plain{nodes: nodes}
		for x := range slices.Chunk(b[1:], 3) {
			if len(x) == 3 {
				follow(t, g, p, []deed{{changing[x[0]%4], int(int8(x[1])), int(int8(x[2]))}})
			}
		}
	})
}
