package capab_test

import (
	"math"
	"slices"
	"testing"

	"rampart/api"
	"rampart/capab"
)

// stands holds what a table tells of a number against what it must be.
func stands(t testing.TB, c *capab.Table, h uint32, want api.Cap, ok bool) {
	t.Helper()
	if got, is := c.Find(h); got != want || is != ok {
		t.Errorf("Find(%d) = %v, %v, want %v, %v", h, got, is, want, ok)
	}
}

// lives holds all handles of a table against what they must be.
func lives(t testing.TB, c *capab.Table, want ...uint32) {
	t.Helper()
	if got := c.Live(); !slices.Equal(got, want) {
		t.Errorf("Live() = %v, want %v", got, want)
	}
}

// leaves holds how many places are left against what it must be.
func leaves(t testing.TB, c *capab.Table, want int) {
	t.Helper()
	if got := c.Left(); got != want {
		t.Errorf("Left() = %d, want %d", got, want)
	}
}

// refuses is a Mint that must answer an error, and change nothing.
func refuses(t testing.TB, c *capab.Table, x api.Cap, want api.Errno) {
	t.Helper()
	live, left := c.Live(), c.Left()
	if h, e := c.Mint(x); h != 0 || e != want {
		t.Errorf("Mint(%v) = %d, %d, want %d", x, h, e, want)
	}
	lives(t, c, live...)
	leaves(t, c, left)
}

// The chapter's example.
func TestExample(t *testing.T) {
	c := made(t, 4)
	three := api.Cap{Channel: 3, Rights: 1}
	if h := minted(t, c, three); h != 65792 {
		t.Errorf("Mint = %d", h)
	}
	stands(t, c, 65792, three, true)
	must(t, c.Drop(65792), api.OK, "Drop")
	stands(t, c, 65792, api.Cap{}, false)
	if h := minted(t, c, three); h != 131328 {
		t.Errorf("Mint = %d", h)
	}
	stands(t, c, 65792, api.Cap{}, false)
	stands(t, c, 131328, three, true)
}

// P11.1

func TestNew(t *testing.T) {
	for places := range 33 {
		c := made(t, places)
		leaves(t, c, places)
		lives(t, c)
	}
	for _, places := range []int{-1, -2, -32, 33, 34, 64, 255, 256, math.MinInt, math.MinInt + 1, math.MaxInt, 1 << 32, -1 << 32} {
		if c, e := capab.New(places); c != nil || e != 1 {
			t.Errorf("New(%d) = %v, %d", places, c, e)
		}
	}
}

func TestNoPlaces(t *testing.T) {
	c := made(t, 0)
	leaves(t, c, 0)
	lives(t, c)
	refuses(t, c, api.Cap{Rights: 1}, 110)
	refuses(t, c, api.Cap{}, 1)
	for _, h := range []uint32{0, 1, 256, 65536, 65792, 65793, math.MaxUint32} {
		must(t, c.Drop(h), 111, "Drop")
		stands(t, c, h, api.Cap{}, false)
	}
}

func TestLeft(t *testing.T) {
	for _, places := range []int{1, 2, 31, 32} {
		c := made(t, places)
		var l []uint32
		for i := range places {
			leaves(t, c, places-i)
			l = append(l, minted(t, c, api.Cap{Rights: 1}))
		}
		leaves(t, c, 0)
		for i, h := range l {
			must(t, c.Drop(h), api.OK, "Drop")
			leaves(t, c, i+1)
		}
	}
}

// P11.2

func TestMint(t *testing.T) {
	for _, places := range []int{1, 2, 3, 31, 32} {
		c := made(t, places)
		var want []uint32
		for i := range places {
			x := api.Cap{Channel: 40 - i, Rights: uint8(i%7 + 1)}
			h := minted(t, c, x)
			if h != number(i, i%7+1, 1) {
				t.Errorf("Mint(%v) = %d, want %d", x, h, number(i, i%7+1, 1))
			}
			stands(t, c, h, x, true)
			want = append(want, h)
			lives(t, c, want...)
		}
		refuses(t, c, api.Cap{Rights: 1}, 110)
		refuses(t, c, api.Cap{Channel: 40, Rights: 255}, 110)
	}
}

// All caps that have a right may be: a table knows neither channels nor names of rights.
func TestMintAnyCap(t *testing.T) {
	for _, channel := range channels {
		c := made(t, 1)
		refuses(t, c, api.Cap{Channel: channel}, 1)
		for rights := 1; rights < 256; rights++ {
			x := api.Cap{Channel: channel, Rights: uint8(rights)}
			h := minted(t, c, x)
			if h != number(0, rights, rights) {
				t.Fatalf("Mint(%v) = %d, want %d", x, h, number(0, rights, rights))
			}
			stands(t, c, h, x, true)
			must(t, c.Drop(h), api.OK, "Drop")
			refuses(t, c, api.Cap{Channel: channel}, 1)
		}
	}
}

func TestMintBehindDrop(t *testing.T) {
	c := made(t, 32)
	var l []uint32
	for range 32 {
		l = append(l, minted(t, c, api.Cap{Rights: 1}))
	}
	for _, at := range []int{31, 0, 17} {
		refuses(t, c, api.Cap{Rights: 2}, 110)
		must(t, c.Drop(l[at]), api.OK, "Drop")
		x := api.Cap{Channel: at, Rights: 2}
		h := minted(t, c, x)
		if h != number(at, 2, 2) {
			t.Errorf("Mint(%v) = %d, want %d", x, h, number(at, 2, 2))
		}
		l[at] = h
		stands(t, c, h, x, true)
		lives(t, c, l...)
		leaves(t, c, 0)
	}
	refuses(t, c, api.Cap{Rights: 2}, 110)
}

// The least place of several that are left, whichever was dropped first, and in whatever generation.
func TestLeastPlace(t *testing.T) {
	c := made(t, 8)
	var l []uint32
	for range 6 {
		l = append(l, minted(t, c, api.Cap{Rights: 7}))
	}
	for _, at := range []int{4, 1, 5, 2} {
		must(t, c.Drop(l[at]), api.OK, "Drop")
	}
	leaves(t, c, 6)
	for _, want := range []uint32{number(1, 7, 2), number(2, 7, 2), number(4, 7, 2), number(5, 7, 2), number(6, 7, 1), number(7, 7, 1)} {
		if h := minted(t, c, api.Cap{Rights: 7}); h != want {
			t.Errorf("Mint = %d, want %d", h, want)
		}
	}
	refuses(t, c, api.Cap{Rights: 7}, 110)
}

// P11.3

func TestFind(t *testing.T) {
	c := made(t, 3)
	caps := []api.Cap{{Channel: 5, Rights: 1}, {Channel: 5, Rights: 6}, {Channel: -9, Rights: 255}}
	for i, x := range caps {
		h := minted(t, c, x)
		stands(t, c, h, x, true)
		for k, other := range caps[:i] {
			stands(t, c, number(k, int(other.Rights), 1), other, true)
		}
	}
	for _, h := range []uint32{
		0, 1, 2, 3, math.MaxUint32, // no handle at all
		number(3, 1, 1), number(32, 1, 1), number(255, 1, 1), // a place that is not there
		number(0, 0, 1), number(0, 2, 1), number(0, 3, 1), number(0, 255, 1), number(1, 2, 1), number(2, 254, 1), // other rights
		number(0, 1, 0), number(0, 1, 2), number(1, 6, 2), number(2, 255, 65535), // another generation
		number(1, 1, 1), number(0, 6, 1), // another place's
	} {
		stands(t, c, h, api.Cap{}, false)
	}
}

// A place that is free has no handle, not even one of no rights.
func TestFindFree(t *testing.T) {
	c := made(t, 2)
	for rights := range 256 {
		for gen := range 3 {
			stands(t, c, number(0, rights, gen), api.Cap{}, false)
		}
	}
	must(t, c.Drop(minted(t, c, api.Cap{Channel: 1, Rights: 1})), api.OK, "Drop")
	for rights := range 256 {
		for gen := range 4 {
			stands(t, c, number(0, rights, gen), api.Cap{}, false)
		}
	}
}

func TestWith(t *testing.T) {
	for have := 1; have < 256; have++ {
		c := made(t, 2)
		x := api.Cap{Channel: have, Rights: uint8(have)}
		minted(t, c, api.Cap{Rights: 255})
		h := minted(t, c, x)
		for want := range 256 {
			wish, ok := x, true
			if !hasAll(uint8(have), uint8(want)) {
				wish, ok = api.Cap{}, false
			}
			if got, is := c.With(h, uint8(want)); got != wish || is != ok {
				t.Fatalf("With(%d, %d) = %v, %v of %v", h, want, got, is, x)
			}
			if got, is := c.With(h+65536, uint8(want)); got != (api.Cap{}) || is {
				t.Fatalf("With(%d, %d) = %v, %v of %v", h+65536, want, got, is, x)
			}
		}
	}
}

// What is wrong with a handle is wrong whatever rights are asked for.
func TestWithNothing(t *testing.T) {
	c := made(t, 2)
	dead := minted(t, c, api.Cap{Channel: 1, Rights: 7})
	must(t, c.Drop(dead), api.OK, "Drop")
	minted(t, c, api.Cap{Channel: 1, Rights: 7})
	for _, h := range []uint32{dead, 0, math.MaxUint32, number(0, 3, 2), number(1, 7, 1), number(2, 7, 1), number(1, 0, 1), number(1, 0, 0)} {
		for _, rights := range someRights {
			if got, is := c.With(h, rights); got != (api.Cap{}) || is {
				t.Errorf("With(%d, %d) = %v, %v", h, rights, got, is)
			}
		}
	}
}

func TestLive(t *testing.T) {
	c := made(t, 32)
	lives(t, c)
	var l []uint32
	for i := range 32 {
		l = append(l, minted(t, c, api.Cap{Rights: uint8(255 - i)})) // so that no order of the numbers is that of the places
		lives(t, c, l...)
	}
	for i := 0; i < 32; i += 2 {
		must(t, c.Drop(l[i]), api.OK, "Drop")
	}
	var odd []uint32
	for i := 1; i < 32; i += 2 {
		odd = append(odd, l[i])
	}
	lives(t, c, odd...)
	h := minted(t, c, api.Cap{Rights: 255})
	lives(t, c, append([]uint32{h}, odd...)...)
}

// P11.4

func TestDrop(t *testing.T) {
	c := made(t, 3)
	a, b := minted(t, c, api.Cap{Channel: 1, Rights: 3}), minted(t, c, api.Cap{Channel: 2, Rights: 3})
	for _, h := range []uint32{0, math.MaxUint32, a + 65536, a - 65536, a + 256, a - 256, number(0, 0, 1), number(2, 0, 1), number(2, 3, 1), number(3, 3, 1), number(35, 3, 1), number(255, 3, 1)} {
		must(t, c.Drop(h), 111, "Drop")
		lives(t, c, a, b)
		leaves(t, c, 1)
	}
	must(t, c.Drop(a), api.OK, "Drop")
	stands(t, c, a, api.Cap{}, false)
	stands(t, c, b, api.Cap{Channel: 2, Rights: 3}, true)
	lives(t, c, b)
	leaves(t, c, 2)
	for range 3 {
		must(t, c.Drop(a), 111, "Drop again")
		lives(t, c, b)
		leaves(t, c, 2)
	}
	must(t, c.Drop(b), api.OK, "Drop")
	lives(t, c)
	leaves(t, c, 3)
}

// A place that was dropped twice is in the next generation but one, not further: what is refused changes none.
func TestDropOneGeneration(t *testing.T) {
	c := made(t, 1)
	for gen := 1; gen < 300; gen++ {
		h := minted(t, c, api.Cap{Rights: 5})
		if h != number(0, 5, gen) {
			t.Fatalf("Mint = %d, want generation %d", h, gen)
		}
		must(t, c.Drop(h+65536), 111, "Drop")
		must(t, c.Drop(h), api.OK, "Drop")
		must(t, c.Drop(h), 111, "Drop")
		must(t, c.Drop(h+65536), 111, "Drop")
		refuses(t, c, api.Cap{Channel: 1}, 1)
	}
}

func TestNarrow(t *testing.T) {
	for _, channel := range channels {
		for have := range 256 {
			for want := range 256 {
				wish, ok := api.Cap{Channel: channel, Rights: uint8(want)}, true
				if want == 0 || !hasAll(uint8(have), uint8(want)) {
					wish, ok = api.Cap{}, false
				}
				x := api.Cap{Channel: channel, Rights: uint8(have)}
				if got, is := capab.Narrow(x, uint8(want)); got != wish || is != ok {
					t.Fatalf("Narrow(%v, %d) = %v, %v", x, want, got, is)
				}
			}
		}
	}
}

func TestNarrowExamples(t *testing.T) {
	all := api.Cap{Channel: 3, Rights: 7}
	for _, x := range []struct {
		cap    api.Cap
		rights uint8
		want   api.Cap
		ok     bool
	}{
		{all, 7, all, true},
		{all, 5, api.Cap{Channel: 3, Rights: 5}, true},
		{all, 0, api.Cap{}, false},
		{all, 8, api.Cap{}, false},
		{all, 15, api.Cap{}, false},
		{api.Cap{Channel: 3, Rights: 1}, 3, api.Cap{}, false},
		{api.Cap{Channel: 3}, 0, api.Cap{}, false},
		{api.Cap{Channel: 3}, 1, api.Cap{}, false},
		{api.Cap{Channel: 3, Rights: 255}, 255, api.Cap{Channel: 3, Rights: 255}, true},
	} {
		if got, is := capab.Narrow(x.cap, x.rights); got != x.want || is != x.ok {
			t.Errorf("Narrow(%v, %d) = %v, %v", x.cap, x.rights, got, is)
		}
	}
}
