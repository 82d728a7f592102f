package arena_test

import (
	"fmt"
	"math"
	"slices"
	"testing"

	"rampart/api"
	"rampart/arena"
)

// plainSlot is what the chapter's words say of a slot.
type plainSlot struct {
	part    int
	payload uint64
	gen     uint64
	held    bool
}

// plain is what the chapter's words say of an arena: slots, and each partition's free ones in a queue.
type plain struct {
	slots  []plainSlot
	queues [][]int
}

// deed is a call: a partition, or a name and a payload, as its kind has them.
type deed struct {
	kind    string
	part    int
	slot    api.Slot
	payload uint64
}

// told is what a call answers, all of it.
type told struct {
	slot    api.Slot
	payload uint64
	e       api.Errno
}

// do does a deed to an arena.
func do(a *arena.Arena, d deed) told {
	switch d.kind {
	case "Alloc":
		s, e := a.Alloc(d.part)
		return told{slot: s, e: e}
	case "Write":
		return told{e: a.Write(d.slot, d.payload)}
	case "Read":
		x, e := a.Read(d.slot)
		return told{payload: x, e: e}
	case "Free":
		return told{e: a.Free(d.slot)}
	}
	panic(d.kind)
}

// newPlain is a plain arena of so many slots each.
func newPlain(quotas ...int) *plain {
	p := &plain{}
	for k, size := range quotas {
		var queue []int
		for range size {
			queue = append(queue, len(p.slots))
			p.slots = append(p.slots, plainSlot{part: k})
		}
		p.queues = append(p.queues, queue)
	}
	return p
}

func (p *plain) hasPart(k int) bool { return k >= 0 && k < len(p.queues) }
func (p *plain) hasSlot(n int) bool { return n >= 0 && n < len(p.slots) }

// alive is the chapter's word.
func (p *plain) alive(s api.Slot) bool {
	return p.hasSlot(s.N) && p.slots[s.N].held && p.slots[s.N].gen == s.Gen
}

// do does a deed to a plain arena.
func (p *plain) do(d deed) told {
	if d.kind == "Alloc" {
		if !p.hasPart(d.part) {
			return told{e: 5}
		}
		if len(p.queues[d.part]) == 0 {
			return told{e: 61}
		}
		n := p.queues[d.part][0]
		p.queues[d.part] = p.queues[d.part][1:]
		p.slots[n].held = true
		return told{slot: api.Slot{N: n, Gen: p.slots[n].gen}}
	}
	if !p.alive(d.slot) {
		return told{e: 62}
	}
	s := &p.slots[d.slot.N]
	switch d.kind {
	case "Write":
		s.payload = d.payload
	case "Read":
		return told{payload: s.payload}
	case "Free":
		s.payload, s.held = 0, false
		s.gen++
		p.queues[s.part] = append(p.queues[s.part], d.slot.N)
	}
	return told{}
}

// heldOf are the names of a partition's held slots.
func (p *plain) heldOf(part int) []api.Slot {
	var l []api.Slot
	for n, s := range p.slots {
		if s.part == part && s.held {
			l = append(l, api.Slot{N: n, Gen: s.gen})
		}
	}
	return l
}

// made is an arena that New made.
func made(t testing.TB, quotas ...int) *arena.Arena {
	t.Helper()
	a, e := arena.New(quotas...)
	if a == nil || e != api.OK {
		t.Fatalf("New(%v) = %v, %d", quotas, a, e)
	}
	return a
}

// given gives a slot of a partition.
func given(t testing.TB, a *arena.Arena, part int) api.Slot {
	t.Helper()
	s, e := a.Alloc(part)
	if e != api.OK {
		t.Fatalf("Alloc(%d) = %v, %d", part, s, e)
	}
	return s
}

// all is what Held tells.
func all(a *arena.Arena, part int) []api.Slot { return slices.Collect(a.Held(part)) }

// wrong tells where an arena stands otherwise than a plain one, "" if nowhere.
func wrong(a *arena.Arena, p *plain) string {
	for k := -1; k <= len(p.queues); k++ {
		want := p.heldOf(k)
		if got := all(a, k); !slices.Equal(got, want) {
			return fmt.Sprintf("Held(%d) = %v, want %v", k, got, want)
		}
		held, free, fault := 0, 0, api.Errno(5)
		if p.hasPart(k) {
			held, free, fault = len(want), len(p.queues[k]), 0
		}
		if h, f, e := a.Counts(k); h != held || f != free || e != fault {
			return fmt.Sprintf("Counts(%d) = %d, %d, %d, want %d, %d, %d", k, h, f, e, held, free, fault)
		}
	}
	for n := -1; n <= len(p.slots); n++ {
		if s := wrongSlot(a, p, n); s != "" {
			return s
		}
	}
	return ""
}

// wrongSlot tells what is otherwise at one slot.
func wrongSlot(a *arena.Arena, p *plain, n int) string {
	want := plainSlot{}
	if p.hasSlot(n) {
		want = p.slots[n]
	}
	if k, ok := a.Part(n); k != want.part || ok != p.hasSlot(n) {
		return fmt.Sprintf("Part(%d) = %d, %v, want %d", n, k, ok, want.part)
	}
	if x, gen, held := a.Look(n); x != want.payload || gen != want.gen || held != want.held {
		return fmt.Sprintf("Look(%d) = %d, %d, %v, want %v", n, x, gen, held, want)
	}
	for _, gen := range []uint64{want.gen, want.gen + 1, want.gen - 1, 0} {
		d := deed{kind: "Read", slot: api.Slot{N: n, Gen: gen}}
		if got, want := do(a, d), p.do(d); got != want {
			return fmt.Sprintf("Read(%v) = %v, want %v", d.slot, got, want)
		}
	}
	return ""
}

// follow does deeds to an arena and to a plain one, and fails where they tell or stand otherwise.
func follow(t testing.TB, quotas []int, deeds []deed) {
	t.Helper()
	a, p := made(t, quotas...), newPlain(quotas...)
	for i, d := range deeds {
		if got, want := do(a, d), p.do(d); got != want {
			t.Fatalf("%v, %v: %v, want %v", quotas, deeds[:i+1], got, want)
		}
		if s := wrong(a, p); s != "" {
			t.Fatalf("%v, %v: %s", quotas, deeds[:i+1], s)
		}
	}
}

// dice is a row of numbers that looks like chance, the same one each time.
type dice uint64

// to is a number from 0 to n-1.
func (d *dice) to(n int) int {
	*d += 0x9e3779b97f4a7c15
	z := uint64(*d)
	z = (z ^ z>>30) * 0xbf58476d1ce4e5b9
	z = (z ^ z>>27) * 0x94d049bb133111eb
	return int((z ^ z>>31) % uint64(n))
}

// beyond are numbers of no partition and of no slot, where there are n.
func beyond(n int) []int {
	return []int{-1, n, n + 1, -n - 1, math.MinInt, math.MaxInt, 1 << 32, api.MaxNodes}
}

// near is a number about from 0 to n-1, seldom one beyond it.
func (d *dice) near(n int) int {
	if d.to(12) > 0 && n > 0 {
		return d.to(n)
	}
	return beyond(n)[d.to(8)]
}

// deed is one to a plain arena, most often one that may be done to it as it stands.
func (d *dice) deed(p *plain) deed {
	x := deed{kind: []string{"Alloc", "Write", "Read", "Free"}[d.to(4)], part: d.near(len(p.queues)), payload: uint64(d.to(math.MaxInt)) << d.to(2)}
	x.slot.N = d.near(len(p.slots))
	if p.hasSlot(x.slot.N) {
		x.slot.Gen = p.slots[x.slot.N].gen
	}
	if d.to(6) == 0 {
		x.slot.Gen += []uint64{1, math.MaxUint64, 2, 1 << 63, 1 << 32}[d.to(5)]
	}
	return x
}

// deeds are so many deeds to an arena of these.
func (d *dice) deeds(count int, quotas ...int) []deed {
	p := newPlain(quotas...)
	var out []deed
	for range count {
		x := d.deed(p)
		p.do(x)
		out = append(out, x)
	}
	return out
}
