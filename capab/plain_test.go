package capab_test

import (
	"fmt"
	"math"
	"slices"
	"testing"

	"rampart/api"
	"rampart/capab"
)

// last is the last generation of a place.
const last = 65535

// plainPlace is what the chapter's words say of a place.
type plainPlace struct {
	state string // free, taken or spent
	gen   int
	cap   api.Cap
}

// plain is what the chapter's words say of a table.
type plain struct {
	places []plainPlace
}

// newPlain is a plain table.
func newPlain(places int) *plain {
	return &plain{places: slices.Repeat([]plainPlace{{state: "free", gen: 1}}, places)}
}

// deed is a call: a cap, a number and rights, as its kind has them.
type deed struct {
	kind   string
	cap    api.Cap
	h      uint32
	rights uint8
}

// told is what a call answers, all of it; lists as texts.
type told struct {
	h    uint32
	cap  api.Cap
	ok   bool
	live string
	left int
	e    api.Errno
}

// kinds are all calls of a table.
var kinds = []string{"Mint", "Drop", "Find", "With", "Live", "Left"}

// do does a deed to a table.
func do(c *capab.Table, d deed) (got told) {
	switch d.kind {
	case "Mint":
		got.h, got.e = c.Mint(d.cap)
	case "Drop":
		got.e = c.Drop(d.h)
	case "Find":
		got.cap, got.ok = c.Find(d.h)
	case "With":
		got.cap, got.ok = c.With(d.h, d.rights)
	case "Live":
		got.live = text(c.Live())
	case "Left":
		got.left = c.Left()
	default:
		panic(d.kind)
	}
	return got
}

// text is a list as a text, the same one for nil and for an empty one.
func text(l []uint32) string {
	if len(l) == 0 {
		return ""
	}
	return fmt.Sprint(l)
}

// number is a handle of a place, rights and a generation.
func number(place, rights, gen int) uint32 { return uint32(place + 256*rights + 65536*gen) }

// handles are those of all taken places, by their places.
func (p *plain) handles() []uint32 {
	var l []uint32
	for at, x := range p.places {
		if x.state == "taken" {
			l = append(l, number(at, int(x.cap.Rights), x.gen))
		}
	}
	return l
}

// of is the taken place that has a handle, else nil.
func (p *plain) of(h uint32) *plainPlace {
	for at := range p.places {
		x := &p.places[at]
		if x.state == "taken" && number(at, int(x.cap.Rights), x.gen) == h {
			return x
		}
	}
	return nil
}

// left is how many places are free, and not spent.
func (p *plain) left() int {
	n := 0
	for _, x := range p.places {
		if x.state == "free" {
			n++
		}
	}
	return n
}

// hasAll tells whether each of some rights is among others, one by one.
func hasAll(have, want uint8) bool {
	for i := range 8 {
		if want>>i%2 == 1 && have>>i%2 == 0 {
			return false
		}
	}
	return true
}

// do does a deed to a plain table.
func (p *plain) do(d deed) told {
	switch d.kind {
	case "Mint":
		return p.mint(d.cap)
	case "Drop":
		x := p.of(d.h)
		if x == nil {
			return told{e: 111}
		}
		if x.gen == last {
			*x = plainPlace{state: "spent", gen: last}
		} else {
			*x = plainPlace{state: "free", gen: x.gen + 1}
		}
	case "Find":
		if x := p.of(d.h); x != nil {
			return told{cap: x.cap, ok: true}
		}
	case "With":
		if x := p.of(d.h); x != nil && hasAll(x.cap.Rights, d.rights) {
			return told{cap: x.cap, ok: true}
		}
	case "Live":
		return told{live: text(p.handles())}
	case "Left":
		return told{left: p.left()}
	}
	return told{}
}

func (p *plain) mint(c api.Cap) told {
	if c.Rights == 0 {
		return told{e: 1}
	}
	for at := range p.places {
		if x := &p.places[at]; x.state == "free" {
			x.state, x.cap = "taken", c
			return told{h: number(at, int(c.Rights), x.gen)}
		}
	}
	return told{e: 110}
}

// made is a table that New made.
func made(t testing.TB, places int) *capab.Table {
	t.Helper()
	c, e := capab.New(places)
	if c == nil || e != api.OK {
		t.Fatalf("New(%d) = %v, %d", places, c, e)
	}
	return c
}

// minted is a handle that a table must mint.
func minted(t testing.TB, c *capab.Table, x api.Cap) uint32 {
	t.Helper()
	h, e := c.Mint(x)
	if e != api.OK {
		t.Fatalf("Mint(%v) = %d, %d", x, h, e)
	}
	return h
}

// worn is a table, and a plain one, whose places are taken for send in such generations; one whose generation is past the last one is spent.
func worn(t testing.TB, gens ...int) (*capab.Table, *plain) {
	t.Helper()
	c, p := made(t, len(gens)), newPlain(len(gens))
	send := api.Cap{Rights: api.RightSend}
	for at, gen := range gens {
		for g := 1; g <= gen && g <= last; g++ {
			h := minted(t, c, send)
			if h != number(at, 1, g) {
				t.Fatalf("Mint(%v) = %d, want place %d in generation %d", send, h, at, g)
			}
			if g < gen {
				must(t, c.Drop(h), api.OK, "Drop")
			}
		}
		p.places[at] = plainPlace{state: "taken", gen: gen, cap: send}
		if gen > last {
			p.places[at] = plainPlace{state: "spent", gen: last}
		}
	}
	return c, p
}

// must holds an error against what it must be.
func must(t testing.TB, got, want api.Errno, what string) {
	t.Helper()
	if got != want {
		t.Fatalf("%s: %d, want %d", what, got, want)
	}
}

// wrong tells where a table stands otherwise than a plain one, "" if nowhere.
func wrong(c *capab.Table, p *plain) string {
	for _, kind := range []string{"Live", "Left"} {
		d := deed{kind: kind}
		if got, want := do(c, d), p.do(d); got != want {
			return fmt.Sprintf("%s: %+v, want %+v", kind, got, want)
		}
	}
	for _, h := range p.numbers() {
		d := deed{kind: "Find", h: h}
		if got, want := do(c, d), p.do(d); got != want {
			return fmt.Sprintf("Find(%d): %+v, want %+v", h, got, want)
		}
	}
	return ""
}

// numbers are all handles, and of each place some that are none's, or not any more, or not yet.
func (p *plain) numbers() []uint32 {
	l := []uint32{0, 1, 256, 257, 65536, 65537, 65792, 65793, math.MaxUint32, math.MaxUint32 - 1}
	for at, x := range p.places {
		rights := int(x.cap.Rights)
		for _, h := range []int{
			int(number(at, rights, x.gen)), int(number(at, rights, x.gen+1)), int(number(at, rights, x.gen)) - 65536,
			int(number(at, 1, x.gen)), int(number(at, rights^1, x.gen)), int(number(at, 0, x.gen)), int(number(at, 255, x.gen)),
			int(number(at+1, rights, x.gen)), int(number(at+32, rights, x.gen)), int(number(at+len(p.places), rights, x.gen)),
		} {
			l = append(l, uint32(h))
		}
	}
	return l
}

// follow does deeds to a table and to a plain one, and fails where they tell or stand otherwise.
func follow(t testing.TB, c *capab.Table, p *plain, deeds []deed) {
	t.Helper()
	for i, d := range deeds {
		if got, want := do(c, d), p.do(d); got != want {
			t.Fatalf("%d places, %v: %+v, want %+v", len(p.places), deeds[max(0, i-20):i+1], got, want)
		}
		if s := wrong(c, p); s != "" {
			t.Fatalf("%d places, %v: %s", len(p.places), deeds[max(0, i-20):i+1], s)
		}
	}
}

// copied is a plain table that stands likewise.
func (p *plain) copied() *plain { return &plain{places: slices.Clone(p.places)} }

// dice is a row of numbers that looks like chance, the same one each time.
type dice uint64

// to is a number from 0 to n-1.
func (d *dice) to(n int) int {
	*d += 0x9e3779b97f4a7c15
	z := uint64(*d)
	z = (z ^ z>>30) * 0xbf58476d1ce4e5b9
	z = (z ^ z>>27) * 0x94d049bb133111eb
	return int((z ^ z>>31) % uint64(n))
}

// channels are those of caps: a table keeps any number.
var channels = []int{0, 1, 31, 32, -1, math.MinInt, math.MaxInt}

// someRights are rights, some of which there are no names for.
var someRights = []uint8{0, 1, 2, 3, 4, 5, 6, 7, 8, 128, 255}

// deed is one to a plain table, most often one that may be done to it as it stands; often is how many of ten are Mints, of those that change something.
func (d *dice) deed(p *plain, often int) deed {
	x := deed{kind: kinds[d.to(len(kinds))], rights: someRights[d.to(len(someRights))]}
	if d.to(3) > 0 {
		x.kind = "Drop"
		if d.to(10) < often {
			x.kind = "Mint"
		}
	}
	x.cap = api.Cap{Channel: channels[d.to(len(channels))], Rights: someRights[d.to(len(someRights))]}
	l := p.handles()
	if len(l) == 0 || d.to(6) == 0 {
		l = p.numbers()
	}
	x.h = l[d.to(len(l))]
	return x
}

// deeds are so many deeds to a plain table, more Mints and more Drops in turns, so that it is full at times, and empty.
func (d *dice) deeds(count int, p *plain) []deed {
	p = p.copied()
	var out []deed
	for i := range count {
		x := d.deed(p, 2+6*(i/100%2))
		p.do(x)
		out = append(out, x)
	}
	return out
}
