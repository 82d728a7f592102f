package arena_test

import (
	"math"
	"slices"
	"testing"

	"rampart/api"
	"rampart/arena"
)

// Rules 1 and 3: an arena that is nil, or that New did not make, whatever it is asked.
func TestNotMade(t *testing.T) {
	for name, a := range map[string]*arena.Arena{"nil": nil, "hand-made": {}, "new": new(arena.Arena)} {
		for _, n := range append(beyond(1), 0) {
			for _, gen := range []uint64{0, 1, math.MaxUint64} {
				for _, kind := range []string{"Alloc", "Write", "Read", "Free"} {
					d := deed{kind: kind, part: n, slot: api.Slot{N: n, Gen: gen}, payload: 5}
					if got := do(a, d); got != (told{e: 4}) {
						t.Errorf("%s: %v: %v", name, d, got)
					}
				}
			}
			if h, f, e := a.Counts(n); h != 0 || f != 0 || e != 4 {
				t.Errorf("%s: Counts(%d) = %d, %d, %d", name, n, h, f, e)
			}
			if k, ok := a.Part(n); k != 0 || ok {
				t.Errorf("%s: Part(%d) = %d, %v", name, n, k, ok)
			}
			if x, gen, held := a.Look(n); x != 0 || gen != 0 || held {
				t.Errorf("%s: Look(%d) = %d, %d, %v", name, n, x, gen, held)
			}
			held := a.Held(n)
			if held == nil {
				t.Fatalf("%s: Held(%d) = nil", name, n)
			}
			for s := range held {
				t.Errorf("%s: Held(%d) tells %v", name, n, s)
			}
			held(nil)
		}
	}
}

// P6.2, rules 1 and 2: all rows of five deeds to partitions of 2 slots and of 1 tell what the plain arena tells.
func TestAllShortRows(t *testing.T) {
	deeds := []deed{{kind: "Alloc"}, {kind: "Alloc", part: 1}}
	for n := range 3 {
		for gen := range uint64(2) {
			s := api.Slot{N: n, Gen: gen}
			deeds = append(deeds, deed{kind: "Write", slot: s, payload: 7 + gen}, deed{kind: "Free", slot: s})
		}
	}
	row, n := make([]deed, 5), len(deeds)
	for i := range n * n * n * n * n {
		for at := range row {
			row[at] = deeds[i%n]
			i /= n
		}
		endsAlike(t, row)
	}
}

// endsAlike does deeds to partitions of 2 slots and of 1, looks at what each tells, and at how the arena stands in the end.
func endsAlike(t *testing.T, deeds []deed) {
	a, p := made(t, 2, 1), newPlain(2, 1)
	for _, d := range deeds {
		if got, want := do(a, d), p.do(d); got != want {
			t.Fatalf("%v: at %v %v, want %v", deeds, d, got, want)
		}
	}
	if s := wrong(a, p); s != "" {
		t.Fatalf("%v: %s", deeds, s)
	}
}

// P6.2, P6.3, rules 1 and 2: long rows of deeds, wrong ones among them.
func TestLongRows(t *testing.T) {
	d := dice(6)
	for range 300 {
		quotas := make([]int, 1+d.to(5))
		for k := range quotas {
			quotas[k] = d.to(5)
		}
		follow(t, quotas, d.deeds(200, quotas...))
	}
	most := slices.Repeat([]int{3}, 16)
	follow(t, most, d.deeds(3000, most...))
	follow(t, []int{40, 0, 60}, d.deeds(3000, 40, 0, 60))
}

// P6.4, P6.5: held and free are always a partition's size, and as many as Held and Look tell; what is free has payload 0.
func TestSums(t *testing.T) {
	quotas := []int{7, 0, 1, 12}
	d := dice(64)
	a, p := made(t, quotas...), newPlain(quotas...)
	for range 5000 {
		x := d.deed(p)
		do(a, x)
		p.do(x)
		first := 0
		for k, size := range quotas {
			h, f, e := a.Counts(k)
			if e != api.OK || h+f != size || h < 0 || f < 0 || h != len(all(a, k)) {
				t.Fatalf("%v: Counts(%d) = %d, %d, %d; Held tells %v", x, k, h, f, e, all(a, k))
			}
			for n := first; n < first+size; n++ {
				x, _, held := a.Look(n)
				if held {
					h--
				} else if x != 0 {
					t.Fatalf("slot %d is free, with %d", n, x)
				}
			}
			if h != 0 {
				t.Fatalf("%v: Look tells %d fewer of partition %d", x, h, k)
			}
			first += size
		}
	}
}

// P6.6: calls in one partition tell the same, whether there are calls in others or none.
func TestApart(t *testing.T) {
	quotas := []int{4, 3, 5}
	first := []int{0, 4, 7}
	d := dice(66)
	for own := range quotas {
		alone, shared := made(t, quotas...), made(t, quotas...)
		p := newPlain(quotas...)
		for range 4000 {
			x := d.deed(p)
			k := x.part
			if x.kind != "Alloc" {
				k, _ = shared.Part(x.slot.N)
			}
			got := do(shared, x)
			p.do(x)
			if k == own {
				if want := do(alone, x); got != want {
					t.Fatalf("partition %d, %v: %v, alone %v", own, x, got, want)
				}
			}
			if !slices.Equal(all(shared, own), all(alone, own)) {
				t.Fatalf("partition %d, %v: Held tells %v, alone %v", own, x, all(shared, own), all(alone, own))
			}
			for n := first[own]; n < first[own]+quotas[own]; n++ {
				x1, gen1, held1 := shared.Look(n)
				if x2, gen2, held2 := alone.Look(n); x1 != x2 || gen1 != gen2 || held1 != held2 {
					t.Fatalf("partition %d, %v: Look(%d) = %d, %d, %v, alone %d, %d, %v", own, x, n, x1, gen1, held1, x2, gen2, held2)
				}
			}
		}
	}
}

// P6.7: a name that was freed is never alive again, and is never given again; no two names that are alive have one number.
func TestDead(t *testing.T) {
	d := dice(67)
	a := made(t, 3, 1, 4)
	freed := map[api.Slot]int{}
	alive := map[int]api.Slot{}
	for range 3000 {
		if s, e := a.Alloc(d.to(3)); e == api.OK && d.to(3) > 0 {
			if old, ok := alive[s.N]; ok || freed[s] > 0 {
				t.Fatalf("given: %v; there is %v; it was freed %d times", s, old, freed[s])
			}
			alive[s.N] = s
		} else if e == api.OK {
			a.Free(s)
			freed[s]++
		}
		if s, ok := alive[d.to(8)]; ok {
			if e := a.Free(s); e != api.OK {
				t.Fatalf("Free(%v) = %d", s, e)
			}
			delete(alive, s.N)
			freed[s]++
		}
	}
	for s, times := range freed {
		if _, e := a.Read(s); e != 62 || times != 1 {
			t.Errorf("%v was freed %d times: Read tells %d", s, times, e)
		}
	}
	if len(freed) < 1000 {
		t.Errorf("no more than %d were freed", len(freed))
	}
}

// Rule 5: arenas that are given the same tell the same, whatever others are given meanwhile, or are asked.
func TestOthers(t *testing.T) {
	d := dice(65)
	quotas := []int{3, 2, 0, 4}
	alone, asked, other := made(t, quotas...), made(t, quotas...), made(t, quotas...)
	p := newPlain(quotas...)
	for _, x := range d.deeds(1000, quotas...) {
		want := do(alone, x)
		do(other, deed{kind: "Alloc", part: d.to(4)})
		for s := range other.Held(d.to(4)) {
			other.Write(s, 1)
			if d.to(2) == 0 {
				other.Free(s)
			}
		}
		for n := range 9 {
			asked.Counts(n)
			asked.Part(n)
			asked.Look(n)
			asked.Read(api.Slot{N: n, Gen: uint64(d.to(3))})
			for range asked.Held(n) {
				break
			}
		}
		if got := do(asked, x); got != want {
			t.Fatalf("%v: %v, and %v", x, got, want)
		}
		p.do(x)
	}
	for _, a := range []*arena.Arena{alone, asked} {
		if s := wrong(a, p); s != "" {
			t.Error(s)
		}
	}
}

// Rule 4: what Held tells is the caller's own.
func TestHeldSharesNothing(t *testing.T) {
	a := made(t, 3)
	for range 3 {
		given(t, a, 0)
	}
	one, two := all(a, 0), all(a, 0)
	clear(one)
	if want := []api.Slot{{N: 0}, {N: 1}, {N: 2}}; !slices.Equal(two, want) || !slices.Equal(all(a, 0), want) {
		t.Errorf("told %v, then %v", two, all(a, 0))
	}
}

// As many slots as may be, all given, written, read, freed in another order and given again.
func TestMost(t *testing.T) {
	const parts, size = api.MaxTenants, api.MaxQuota
	a := made(t, slices.Repeat([]int{size}, parts)...)
	for i := range parts * size {
		k := i % parts
		s := given(t, a, k)
		if s != (api.Slot{N: k*size + i/parts}) {
			t.Fatalf("Alloc(%d) = %v", k, s)
		}
		a.Write(s, uint64(i)+1)
	}
	for i := range parts * size {
		n := i * 1021 % (parts * size)
		want := uint64(n%size*parts+n/size) + 1
		if x, e := a.Read(api.Slot{N: n}); x != want || e != api.OK {
			t.Fatalf("Read of %d = %d, %d, want %d", n, x, e, want)
		}
		if e := a.Free(api.Slot{N: n}); e != api.OK {
			t.Fatalf("Free of %d = %d", n, e)
		}
	}
	for i := range parts * size {
		n := i * 1021 % (parts * size)
		if s := given(t, a, n/size); s != (api.Slot{N: n, Gen: 1}) {
			t.Fatalf("Alloc(%d) = %v, want slot %d", n/size, s, n)
		}
	}
}

// Any bytes, read as partitions and deeds.
func FuzzArena(f *testing.F) {
	f.Add([]byte{2, 2, 1, 0, 0, 0, 0, 0, 0, 3, 0, 0, 0, 0, 0, 0, 1, 0, 1, 0, 1})
	f.Add([]byte{1, 0, 0, 0, 0})
	f.Add([]byte{})
	f.Fuzz(func(t *testing.T, b []byte) {
		if len(b) == 0 || len(b) > 400 || len(b) < 2+int(b[0])%4 {
			return
		}
		var quotas []int
		parts := 1 + int(b[0])%4
		for _, x := range b[1 : 1+parts] {
			quotas = append(quotas, int(x)%6)
		}
		var deeds []deed
		for c := range slices.Chunk(b[1+parts:], 3) {
			if len(c) == 3 {
				n := int(int8(c[1]))
				deeds = append(deeds, deed{[]string{"Alloc", "Write", "Read", "Free"}[c[0]%4], n, api.Slot{N: n, Gen: uint64(int8(c[2]))}, uint64(c[2]) + 1})
			}
		}
		follow(t, quotas, deeds)
	})
}
