package capab_test

import (
	"math"
	"slices"
	"sync"
	"testing"

	"rampart/api"
	"rampart/capab"
)

// Rules 1 and 3: a table that is nil, or that New did not make, whatever it is asked.
func TestNotMade(t *testing.T) {
	for name, c := range map[string]*capab.Table{"nil": nil, "hand-made": {}, "new": new(capab.Table)} {
		for _, h := range []uint32{0, 1, 31, 32, 255, 256, 65536, 65792, 65793, math.MaxUint32} {
			for _, rights := range someRights {
				for _, kind := range kinds {
					want := told{}
					if kind == "Mint" || kind == "Drop" {
						want.e = 4
					}
					d := deed{kind: kind, cap: api.Cap{Channel: 1, Rights: rights}, h: h, rights: rights}
					if got := do(c, d); got != want {
						t.Errorf("%s: %v: %+v", name, d, got)
					}
				}
			}
		}
	}
}

// P11.1 to P11.4, rules 1 and 2: all rows of six deeds to a table of two places, refused ones among them.
func TestAllShortRows(t *testing.T) {
	deeds := []deed{{kind: "Mint", cap: api.Cap{Channel: 1, Rights: 1}}, {kind: "Mint", cap: api.Cap{Channel: 2, Rights: 6}}, {kind: "Mint"}}
	for place := range 2 {
		for gen := 1; gen <= 2; gen++ {
			deeds = append(deeds, deed{kind: "Drop", h: number(place, 1, gen)})
		}
		deeds = append(deeds, deed{kind: "Drop", h: number(place, 6, 1)})
	}
	row, n := make([]deed, 6), len(deeds)
	for i := range n * n * n * n * n * n {
		for at := range row {
			row[at] = deeds[i%n]
			i /= n
		}
		endsAlike(t, row)
	}
}

// endsAlike does deeds to a table of two places, looks at what each tells, and at how the table stands in the end.
func endsAlike(t *testing.T, deeds []deed) {
	c, p := made(t, 2), newPlain(2)
	for _, d := range deeds {
		if got, want := do(c, d), p.do(d); got != want {
			t.Fatalf("%v: at %v %+v, want %+v", deeds, d, got, want)
		}
	}
	if !slices.Equal(c.Live(), p.handles()) || c.Left() != p.left() {
		t.Fatalf("%v: Live() = %v, Left() = %d, want %v, %d", deeds, c.Live(), c.Left(), p.handles(), p.left())
	}
}

// P11.1 to P11.4, rules 1 and 2: long rows of deeds, wrong ones among them, to tables of all sizes.
func TestLongRows(t *testing.T) {
	d := dice(11)
	for places := range 33 {
		p := newPlain(places)
		follow(t, made(t, places), p, d.deeds(700, p))
	}
	for range 40 {
		p := newPlain(d.to(4))
		follow(t, made(t, len(p.places)), p, d.deeds(400, p))
	}
}

// Rule 1: any numbers as handles and rights, to a table that has places of all kinds.
func TestAnyNumbers(t *testing.T) {
	c, p := worn(t, 1, last, last+1, 3, 1)
	must(t, c.Drop(number(3, 1, 3)), api.OK, "Drop")
	p.do(deed{kind: "Drop", h: number(3, 1, 3)})
	d := dice(12)
	var row []deed
	for range 20000 {
		h := uint32(d.to(1 << 32))
		if d.to(2) == 0 {
			h = number(d.to(7), d.to(4), []int{0, 1, 2, 3, 4, last - 1, last}[d.to(7)])
		}
		row = append(row, deed{kind: []string{"Find", "With", "Drop"}[d.to(3)], h: h, rights: uint8(d.to(256))})
	}
	for _, x := range row {
		if got, want := do(c, x), p.do(x); got != want {
			t.Fatalf("%v: %+v, want %+v", x, got, want)
		}
	}
	if s := wrong(c, p); s != "" {
		t.Fatal(s)
	}
}

// Rule 2: where several errors apply, the one that is named first.
func TestErrorsInOrder(t *testing.T) {
	var none *capab.Table
	refuses(t, none, api.Cap{}, 4)
	refuses(t, &capab.Table{}, api.Cap{}, 4)
	full := made(t, 1)
	minted(t, full, api.Cap{Rights: 1})
	for _, c := range []*capab.Table{full, made(t, 0)} {
		refuses(t, c, api.Cap{}, 1)
		refuses(t, c, api.Cap{Channel: 5}, 1)
		refuses(t, c, api.Cap{Channel: 5, Rights: 1}, 110)
	}
	if e := none.Drop(0); e != 4 {
		t.Errorf("Drop of nil: %d", e)
	}
}

// Rule 4: what Live told may be changed, and added to: neither the table nor another answer changes.
func TestNewMemory(t *testing.T) {
	c := made(t, 5)
	for range 3 {
		minted(t, c, api.Cap{Channel: 2, Rights: 1})
	}
	want := []uint32{number(0, 1, 1), number(1, 1, 1), number(2, 1, 1)}
	one, two := c.Live(), c.Live()
	for i := range one[:cap(one)] {
		one[:cap(one)][i] = 77
	}
	if !slices.Equal(two, want) {
		t.Errorf("the other answer is %v", two)
	}
	lives(t, c, want...)
	one = append(one[:0], 1, 2, 3, 4)
	lives(t, c, want...)
	must(t, c.Drop(want[1]), api.OK, "Drop")
	minted(t, c, api.Cap{Rights: 3})
	if !slices.Equal(two, want) || !slices.Equal(one, []uint32{1, 2, 3, 4}) {
		t.Errorf("what was told is %v, %v", two, one)
	}
}

// Rule 5: asking changes nothing, however often.
func TestAskingChangesNothing(t *testing.T) {
	d := dice(13)
	c, p := made(t, 6), newPlain(6)
	for _, x := range d.deeds(600, p) {
		for _, h := range p.numbers() {
			c.Find(h)
			c.With(h, x.rights)
			capab.Narrow(x.cap, x.rights)
		}
		c.Live()
		c.Left()
		if got, want := do(c, x), p.do(x); got != want {
			t.Fatalf("%v: %+v, want %+v", x, got, want)
		}
	}
}

// Rule 5: tables that are given the same tell the same, whatever others are given meanwhile, from several sides at once too.
func TestOthers(t *testing.T) {
	d := dice(14)
	p := newPlain(7)
	deeds := d.deeds(800, p)
	var want []told
	for _, x := range deeds {
		want = append(want, p.do(x))
	}
	again := func() {
		c, other := made(t, 7), made(t, 9)
		for i, x := range deeds {
			other.Mint(api.Cap{Channel: 9, Rights: 255})
			do(other, x)
			if got := do(c, x); got != want[i] {
				t.Errorf("%v: %+v, want %+v", x, got, want[i])
				return
			}
		}
	}
	again()
	var all sync.WaitGroup
	for range 8 {
		all.Go(again)
	}
	all.Wait()
}

// Any bytes, read as deeds: the first says how many places there are.
func FuzzTable(f *testing.F) {
	f.Add([]byte{2, 0, 1, 3, 0, 1, 0, 0, 7})
	f.Add([]byte{32})
	f.Fuzz(func(t *testing.T, b []byte) {
		if len(b) == 0 || len(b) > 1000 {
			return
		}
		places := int(b[0]) % 33
		c, p := made(t, places), newPlain(places)
		for x := range slices.Chunk(b[1:], 4) {
			if len(x) < 4 {
				break
			}
			d := deed{kind: kinds[int(x[0])%len(kinds)], cap: api.Cap{Channel: int(int8(x[1])), Rights: x[2]}, h: number(int(x[1]), int(x[2]), int(x[3])), rights: x[3]}
			if l := p.handles(); x[0] > 127 && len(l) > 0 {
				d.h = l[int(x[1])%len(l)]
			}
			follow(t, c, p, []deed{d})
		}
	})
}
