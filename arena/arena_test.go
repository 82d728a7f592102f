package arena_test

import (
	"math"
	"slices"
	"testing"

	"rampart/api"
	"rampart/arena"
)

// P6.1: from 1 to 16 partitions, each of 0 to 256 slots, all of them free, with payload and generation 0.
func TestNew(t *testing.T) {
	most := slices.Repeat([]int{256}, 16)
	for _, quotas := range [][]int{
		{0}, {1}, {2}, {255}, {256}, {0, 0}, {2, 1}, {0, 3, 0, 2, 0}, {256, 0, 256}, {1, 256},
		make([]int, 15), make([]int, 16), slices.Repeat([]int{1}, 16), most,
	} {
		if s := wrong(made(t, quotas...), newPlain(quotas...)); s != "" {
			t.Errorf("New(%v): %s", quotas, s)
		}
	}
}

// P6.1: no partitions, more than 16, one of fewer than 0 or of more than 256 slots, wherever it stands.
func TestNewWrong(t *testing.T) {
	if a, e := arena.New(); a != nil || e != 60 {
		t.Errorf("New() = %v, %d", a, e)
	}
	rows := [][]int{nil, {}, make([]int, 17), slices.Repeat([]int{1}, 17), slices.Repeat([]int{256}, 17), make([]int, 1000)}
	for _, size := range []int{-1, 257, -256, math.MinInt, math.MaxInt, 1 << 32, 1<<32 + 1, 4096} {
		for _, parts := range []int{1, 2, 16, 17} {
			for at := range parts {
				row := slices.Repeat([]int{3}, parts)
				row[at] = size
				rows = append(rows, row)
			}
		}
	}
	for _, row := range rows {
		if a, e := arena.New(row...); a != nil || e != 60 {
			t.Errorf("New(%v) = %v, %d", row, a, e)
		}
	}
}

// Rule 4: what is handed in is neither changed nor kept.
func TestNewKeepsNothing(t *testing.T) {
	quotas := []int{2, 0, 3}
	a := made(t, quotas...)
	if !slices.Equal(quotas, []int{2, 0, 3}) {
		t.Errorf("New changed its argument: %v", quotas)
	}
	given(t, a, 2)
	quotas[0], quotas[1], quotas[2] = 0, 200, 1
	p := newPlain(2, 0, 3)
	p.do(deed{kind: "Alloc", part: 2})
	if s := wrong(a, p); s != "" {
		t.Errorf("changed behind New: %s", s)
	}
	for _, want := range []told{{slot: api.Slot{N: 3}}, {slot: api.Slot{N: 4}}, {e: 61}} {
		if got := do(a, deed{kind: "Alloc", part: 2}); got != want {
			t.Errorf("changed behind New: Alloc(2) = %v, want %v", got, want)
		}
	}
}

// The chapter's example.
func TestExample(t *testing.T) {
	a := made(t, 2, 1)
	for i, want := range []api.Slot{{N: 0}, {N: 1}} {
		if s := given(t, a, 0); s != want {
			t.Errorf("%d: Alloc(0) = %v", i, s)
		}
	}
	if e := a.Free(api.Slot{N: 0}); e != api.OK {
		t.Errorf("Free = %d", e)
	}
	if s := given(t, a, 0); s != (api.Slot{N: 0, Gen: 1}) {
		t.Errorf("Alloc(0) = %v", s)
	}
	if s := given(t, a, 1); s != (api.Slot{N: 2}) {
		t.Errorf("Alloc(1) = %v", s)
	}
}

// P6.2: each partition gives its own slots, rising, till none is left; one of none gives none.
func TestAlloc(t *testing.T) {
	quotas := []int{3, 0, 1, 256}
	a, p := made(t, quotas...), newPlain(quotas...)
	first := 0
	for k, size := range quotas {
		for i := range size {
			if got := do(a, deed{kind: "Alloc", part: k}); got != (told{slot: api.Slot{N: first + i}}) {
				t.Fatalf("Alloc(%d), %d: %v", k, i, got)
			}
			p.do(deed{kind: "Alloc", part: k})
		}
		for range 2 {
			if got := do(a, deed{kind: "Alloc", part: k}); got != (told{e: 61}) {
				t.Errorf("Alloc(%d) of none: %v", k, got)
			}
		}
		if s := wrong(a, p); s != "" {
			t.Errorf("Alloc(%d): %s", k, s)
		}
		first += size
	}
}

// P6.2: there is no such partition, whether the others have free slots or none; nothing changes.
func TestAllocRange(t *testing.T) {
	a, p := made(t, 2, 0, 1), newPlain(2, 0, 1)
	for range 4 {
		for _, k := range beyond(3) {
			if got := do(a, deed{kind: "Alloc", part: k}); got != (told{e: 5}) {
				t.Errorf("Alloc(%d) = %v", k, got)
			}
		}
		if s := wrong(a, p); s != "" {
			t.Errorf("Alloc of no partition: %s", s)
		}
		for _, k := range []int{0, 2} {
			if got, want := do(a, deed{kind: "Alloc", part: k}), p.do(deed{kind: "Alloc", part: k}); got != want {
				t.Errorf("Alloc(%d) = %v, want %v", k, got, want)
			}
		}
	}
}

// P6.2: a payload is in its slot alone, the last one that was written, all 64 bits of it.
func TestWrite(t *testing.T) {
	a := made(t, 2, 2)
	names := []api.Slot{given(t, a, 0), given(t, a, 0), given(t, a, 1), given(t, a, 1)}
	want := make([]uint64, 4)
	for i, x := range []uint64{7, math.MaxUint64, 1 << 63, 0, 1 << 32, 9, 0x0123456789abcdef, 5, math.MaxUint32} {
		n := i * 3 % 4
		if e := a.Write(names[n], x); e != api.OK {
			t.Errorf("Write(%v, %d) = %d", names[n], x, e)
		}
		want[n] = x
		for n, s := range names {
			if x, e := a.Read(s); x != want[n] || e != api.OK {
				t.Errorf("%d: Read(%v) = %d, %d, want %d", i, s, x, e, want[n])
			}
			if x, gen, held := a.Look(n); x != want[n] || gen != 0 || !held {
				t.Errorf("%d: Look(%d) = %d, %d, %v, want %d", i, n, x, gen, held, want[n])
			}
		}
	}
}

// aged is an arena of 3 and 2 slots: 0 and 2 are free, and were given and freed once; 1 is held for the second time, 3 for the first one, 4 for the third one.
func aged(t testing.TB) (*arena.Arena, *plain) {
	t.Helper()
	a, p := made(t, 3, 2), newPlain(3, 2)
	row := []deed{
		{kind: "Alloc", part: 0}, {kind: "Alloc", part: 0}, {kind: "Alloc", part: 0},
		{kind: "Free", slot: api.Slot{N: 1}}, {kind: "Free", slot: api.Slot{N: 2}}, {kind: "Alloc", part: 0},
		{kind: "Alloc", part: 1}, {kind: "Alloc", part: 1}, {kind: "Free", slot: api.Slot{N: 4}}, {kind: "Alloc", part: 1},
		{kind: "Free", slot: api.Slot{N: 4, Gen: 1}}, {kind: "Alloc", part: 1},
		{kind: "Write", slot: api.Slot{N: 1, Gen: 1}, payload: 11}, {kind: "Write", slot: api.Slot{N: 3}, payload: 33},
		{kind: "Write", slot: api.Slot{N: 4, Gen: 2}, payload: 44},
		{kind: "Free", slot: api.Slot{N: 0}},
	}
	for _, d := range row {
		if got, want := do(a, d), p.do(d); got != want || got.e != api.OK {
			t.Fatalf("%v: %v, want %v", d, got, want)
		}
	}
	return a, p
}

// P6.2: names that are not alive: freed, given again since, of a generation one more or one less, of no slot. Nothing changes.
func TestDeadNames(t *testing.T) {
	dead := []api.Slot{
		{N: 0, Gen: 0}, {N: 0, Gen: 1}, {N: 2, Gen: 0}, {N: 2, Gen: 1}, // free ones
		{N: 1, Gen: 0}, {N: 4, Gen: 0}, {N: 4, Gen: 1}, // given again since
		{N: 1, Gen: 2}, {N: 3, Gen: 1}, {N: 3, Gen: math.MaxUint64}, {N: 4, Gen: 3}, {N: 1, Gen: 1 << 32}, {N: 1, Gen: 1<<32 + 1}, {N: 3, Gen: 1 << 63},
	}
	for _, n := range beyond(5) {
		for _, gen := range []uint64{0, 1, 2, math.MaxUint64} {
			dead = append(dead, api.Slot{N: n, Gen: gen})
		}
	}
	a, p := aged(t)
	for _, s := range dead {
		for _, kind := range []string{"Write", "Read", "Free"} {
			if got := do(a, deed{kind: kind, slot: s, payload: 99}); got != (told{e: 62}) {
				t.Errorf("%s(%v) = %v", kind, s, got)
			}
			if w := wrong(a, p); w != "" {
				t.Fatalf("%s(%v): %s", kind, s, w)
			}
		}
	}
}

// P6.2: names that are alive, the first slot's and the last one's among them.
func TestAliveNames(t *testing.T) {
	for _, s := range []api.Slot{{N: 1, Gen: 1}, {N: 3, Gen: 0}, {N: 4, Gen: 2}} {
		a, p := aged(t)
		x := uint64(11 * s.N)
		for i, want := range []told{{payload: x}, {}, {payload: 99}, {}, {e: 62}, {e: 62}, {e: 62}} {
			d := deed{kind: []string{"Read", "Write", "Read", "Free", "Free", "Read", "Write"}[i], slot: s, payload: 99}
			if got := do(a, d); got != want {
				t.Errorf("%v: %v, want %v", d, got, want)
			}
			p.do(d)
			if w := wrong(a, p); w != "" {
				t.Errorf("%v: %s", d, w)
			}
		}
	}
}

// P6.2: what is freed is the last one of its partition's queue, in whatever order it is freed: it comes again behind those that were free before.
func TestFreeOrder(t *testing.T) {
	for _, order := range [][]int{{0, 1, 2}, {0, 2, 1}, {1, 0, 2}, {1, 2, 0}, {2, 0, 1}, {2, 1, 0}} {
		a := made(t, 4, 2, 5)
		for range 3 {
			given(t, a, 2)
		}
		given(t, a, 0)
		for _, i := range order {
			if e := a.Free(api.Slot{N: 6 + i}); e != api.OK {
				t.Errorf("Free of %d: %d", 6+i, e)
			}
		}
		want := []api.Slot{{N: 9}, {N: 10}}
		for _, i := range order {
			want = append(want, api.Slot{N: 6 + i, Gen: 1})
		}
		for i, s := range want {
			if got := given(t, a, 2); got != s {
				t.Errorf("freed as %v: Alloc %d = %v, want %v", order, i, got, s)
			}
		}
		if _, e := a.Alloc(2); e != 61 {
			t.Errorf("freed as %v: one more: %d", order, e)
		}
	}
}

// P6.5: a free slot's payload is 0, and so is that of one that was just given, whatever was in it.
func TestScrubbed(t *testing.T) {
	a := made(t, 1, 2)
	for gen := range uint64(5) {
		for k := range 2 {
			s := given(t, a, k)
			if x, e := a.Read(s); x != 0 || e != api.OK {
				t.Errorf("Read(%v) = %d, %d", s, x, e)
			}
			a.Write(s, math.MaxUint64-gen)
			if x, e := a.Read(s); x != math.MaxUint64-gen || e != api.OK {
				t.Errorf("Read(%v) = %d, %d", s, x, e)
			}
			a.Free(s)
			if x, g, held := a.Look(s.N); x != 0 || g != s.Gen+1 || held {
				t.Errorf("Look(%d) = %d, %d, %v", s.N, x, g, held)
			}
			if x, e := a.Read(s); x != 0 || e != 62 {
				t.Errorf("Read(%v) behind Free = %d, %d", s, x, e)
			}
		}
	}
}

// P6.3: how many are held, and free; of a partition that there is not: ErrRange.
func TestCounts(t *testing.T) {
	a := made(t, 3, 0, 2)
	given(t, a, 0)
	given(t, a, 2)
	given(t, a, 2)
	for k, want := range [][2]int{{1, 2}, {0, 0}, {2, 0}} {
		if h, f, e := a.Counts(k); h != want[0] || f != want[1] || e != api.OK {
			t.Errorf("Counts(%d) = %d, %d, %d, want %v", k, h, f, e, want)
		}
	}
	for _, k := range beyond(3) {
		if h, f, e := a.Counts(k); h != 0 || f != 0 || e != 5 {
			t.Errorf("Counts(%d) = %d, %d, %d", k, h, f, e)
		}
	}
}

// P6.3: the partition of each slot, the empty ones passed over; of a slot that there is not: 0, false.
func TestPart(t *testing.T) {
	a := made(t, 0, 2, 0, 0, 1, 3, 0)
	for range 2 {
		for n, want := range []int{1, 1, 4, 5, 5, 5} {
			if k, ok := a.Part(n); k != want || !ok {
				t.Errorf("Part(%d) = %d, %v, want %d", n, k, ok, want)
			}
		}
		for _, n := range beyond(6) {
			if k, ok := a.Part(n); k != 0 || ok {
				t.Errorf("Part(%d) = %d, %v", n, k, ok)
			}
		}
		given(t, a, 1)
		given(t, a, 5)
	}
	if k, ok := made(t, 0, 0).Part(0); k != 0 || ok {
		t.Errorf("Part(0) of no slots = %d, %v", k, ok)
	}
}

// P6.3: payload, generation, is it held; of a slot that there is not: zero.
func TestLook(t *testing.T) {
	a, _ := aged(t)
	for n, want := range []plainSlot{{gen: 1}, {payload: 11, gen: 1, held: true}, {gen: 1}, {payload: 33, held: true}, {payload: 44, gen: 2, held: true}} {
		if x, gen, held := a.Look(n); x != want.payload || gen != want.gen || held != want.held {
			t.Errorf("Look(%d) = %d, %d, %v", n, x, gen, held)
		}
	}
	for _, n := range beyond(5) {
		if x, gen, held := a.Look(n); x != 0 || gen != 0 || held {
			t.Errorf("Look(%d) = %d, %d, %v", n, x, gen, held)
		}
	}
}
