package capab_test

import (
	"math"
	"testing"

	"rampart/api"
	"rampart/capab"
)

// P11.5: what was dropped stands for nothing, whatever is minted behind it; no handle is told twice.
func TestNeverAgain(t *testing.T) {
	d := dice(115)
	for _, places := range []int{1, 2, 5, 32} {
		c, p := made(t, places), newPlain(places)
		told, dead := map[uint32]int{}, []uint32{}
		for range 6000 {
			x := d.deed(p, 5)
			p.do(x)
			got := do(c, x)
			if got.e != api.OK {
				continue
			}
			switch x.kind {
			case "Mint":
				told[got.h]++
				if told[got.h] > 1 {
					t.Fatalf("%d places: %d is told again", places, got.h)
				}
			case "Drop":
				dead = append(dead, x.h)
			}
			for range min(len(dead), 20) {
				nothing(t, c, dead[d.to(len(dead))])
			}
		}
		for _, h := range dead {
			nothing(t, c, h)
		}
		if len(dead) < 500 {
			t.Errorf("%d places: no more than %d were dropped", places, len(dead))
		}
	}
}

// nothing holds a number against what a table must tell of one that stands for nothing.
func nothing(t testing.TB, c *capab.Table, h uint32) {
	t.Helper()
	for _, rights := range []uint8{0, 1, 7, 255} {
		if x, ok := c.With(h, rights); ok || x != (api.Cap{}) {
			t.Fatalf("With(%d, %d) = %v, %v", h, rights, x, ok)
		}
	}
	if x, ok := c.Find(h); ok || x != (api.Cap{}) {
		t.Fatalf("Find(%d) = %v, %v", h, x, ok)
	}
	if e := c.Drop(h); e != 111 {
		t.Fatalf("Drop(%d) = %d", h, e)
	}
}

// P11.6: a handle that was minted and not dropped stands for its cap, all others for nothing: all places, all rights, and generations around those that were.
func TestWhatItStandsFor(t *testing.T) {
	d := dice(116)
	for _, places := range []int{1, 3, 32} {
		c, p := made(t, places), newPlain(places)
		alive := map[uint32]api.Cap{}
		for _, x := range d.deeds(600, p) {
			got := do(c, x)
			if got.e == api.OK && x.kind == "Mint" {
				alive[got.h] = x.cap
			}
			if got.e == api.OK && x.kind == "Drop" {
				delete(alive, x.h)
			}
		}
		seen := 0
		for h := range numbersUpTo(400) {
			want, ok := alive[h]
			if got, is := c.Find(h); got != want || is != ok {
				t.Fatalf("Find(%d) = %v, %v, want %v, %v", h, got, is, want, ok)
			}
			if ok {
				seen++
			}
		}
		if seen != len(alive) || seen != len(c.Live()) || seen == 0 {
			t.Errorf("%d places: %d are found, Live tells %d, %d are alive", places, seen, len(c.Live()), len(alive))
		}
	}
}

// numbersUpTo tells all numbers of the generations below one, those of the places 0 to 33 and 255, and of all rights; and all of the last generations.
func numbersUpTo(gens int) func(func(uint32) bool) {
	return func(yield func(uint32) bool) {
		for gen := range gens + 2 {
			if gen >= gens {
				gen = last - (gen - gens)
			}
			for rights := range 256 {
				for place := range 35 {
					if place == 34 {
						place = 255
					}
					if !yield(number(place, rights, gen)) {
						return
					}
				}
			}
		}
	}
}

// P11.6: each number that is a handle but for one bit stands for nothing.
func TestOneBitOff(t *testing.T) {
	for _, gen := range []int{1, 2, 255, 256, last} {
		c, _ := worn(t, gen, 1)
		for _, h := range c.Live() {
			for bit := range 32 {
				if off := h ^ 1<<bit; off != c.Live()[0] && off != c.Live()[1] {
					nothing(t, c, off)
				}
			}
		}
		lives(t, c, number(0, 1, gen), number(1, 1, 1))
	}
}

// P11.7: a table of one place tells 65535 handles, each once, and no more.
func TestSpent(t *testing.T) {
	c := made(t, 1)
	for gen := 1; gen <= last; gen++ {
		h, e := c.Mint(api.Cap{Channel: gen, Rights: 7})
		if h != number(0, 7, gen) || e != api.OK {
			t.Fatalf("Mint = %d, %d, want generation %d", h, e, gen)
		}
		if x, ok := c.Find(h); !ok || x.Channel != gen || c.Left() != 0 {
			t.Fatalf("Find(%d) = %v, %v; %d are left", h, x, ok, c.Left())
		}
		if c.Drop(h) != api.OK {
			t.Fatalf("Drop(%d)", h)
		}
		if left := c.Left(); gen < last && left != 1 || gen == last && left != 0 {
			t.Fatalf("generation %d was dropped: Left() = %d", gen, left)
		}
	}
	for range 3 {
		refuses(t, c, api.Cap{Rights: 7}, 110)
		refuses(t, c, api.Cap{}, 1)
		leaves(t, c, 0)
		lives(t, c)
	}
	for _, h := range []uint32{0, 1, number(0, 7, 1), number(0, 7, last), number(0, 0, last), number(0, 7, 0), number(0, 0, 1), math.MaxUint32} {
		nothing(t, c, h)
	}
	for gen := range last + 1 {
		if _, ok := c.Find(number(0, 7, gen)); ok {
			t.Fatalf("generation %d stands for something", gen)
		}
	}
}

// P11.7: spent places are none's, those beside them go on.
func TestSpentBesideOthers(t *testing.T) {
	c, p := worn(t, last+1, last, last+1, 2)
	leaves(t, c, 0)
	lives(t, c, number(1, 1, last), number(3, 1, 2))
	refuses(t, c, api.Cap{Rights: 1}, 110)
	if s := wrong(c, p); s != "" {
		t.Fatal(s)
	}
	must(t, c.Drop(number(3, 1, 2)), api.OK, "Drop")
	leaves(t, c, 1)
	must(t, c.Drop(number(1, 1, last)), api.OK, "Drop")
	leaves(t, c, 1)
	if h := minted(t, c, api.Cap{Rights: 4}); h != number(3, 4, 3) {
		t.Errorf("Mint = %d", h)
	}
	leaves(t, c, 0)
	lives(t, c, number(3, 4, 3))
	refuses(t, c, api.Cap{Rights: 1}, 110)
}

// P11.5 and P11.7: tables whose places are near to be spent, till all of them are.
func TestNearlySpent(t *testing.T) {
	d := dice(117)
	c, p := worn(t, last-3, last-1, last-7, last)
	follow(t, c, p, d.deeds(800, p))
	for p.left() > 0 || len(p.handles()) > 0 {
		var row []deed
		for _, h := range p.handles() {
			row = append(row, deed{kind: "Drop", h: h})
		}
		follow(t, c, p, append(row, deed{kind: "Mint", cap: api.Cap{Rights: 2}}))
	}
	leaves(t, c, 0)
	lives(t, c)
	refuses(t, c, api.Cap{Rights: 1}, 110)
}
