package agenda_test

import (
	"fmt"
	"math"
	"slices"
	"testing"

	"rampart/agenda"
	"rampart/api"
)

// thing is what agendas have here: less asks for the key, and the tag tells alike ones apart.
type thing struct {
	key int
	tag int
}

// less is what is handed in.
type less func(a, b thing) bool

// orders are such as less must be.
func orders() map[string]less {
	return map[string]less{
		"rising":   func(a, b thing) bool { return a.key < b.key },
		"falling":  func(a, b thing) bool { return a.key > b.key },
		"by tens":  func(a, b thing) bool { return a.key/10 < b.key/10 },
		"by halfs": func(a, b thing) bool { return a.key < 3 && b.key >= 3 },
		"alike":    func(a, b thing) bool { return false },
		"by both":  func(a, b thing) bool { return a.key < b.key || a.key == b.key && a.tag > b.tag },
	}
}

// wrongs are such as less must not be, each made anew, as some remember what they were asked.
func wrongs() map[string]func() less {
	return map[string]func() less{
		"always":        func() less { return func(a, b thing) bool { return true } },
		"not behind":    func() less { return func(a, b thing) bool { return a.key <= b.key } },
		"not ahead":     func() less { return func(a, b thing) bool { return a.key >= b.key } },
		"unlike":        func() less { return func(a, b thing) bool { return a.key != b.key } },
		"the same":      func() less { return func(a, b thing) bool { return a == b } },
		"round":         func() less { return func(a, b thing) bool { return (b.key-a.key+3)%3 == 1 } },
		"far apart":     func() less { return func(a, b thing) bool { return a.key+2 < b.key } },
		"no number":     func() less { return func(a, b thing) bool { return float(a) < float(b) } },
		"first of two":  func() less { return func(a, b thing) bool { return a.key%2 == 0 } },
		"second of two": func() less { return func(a, b thing) bool { return b.key%2 == 0 } },
		"by turns": func() less {
			n := 0
			return func(a, b thing) bool { n++; return n%2 == 0 }
		},
		"by threes": func() less {
			n := 0
			return func(a, b thing) bool { n++; return n%3 == 0 == (a.key < b.key) }
		},
		"like chance": func() less {
			d := dice(99)
			return func(a, b thing) bool { return d.to(2) == 0 }
		},
	}
}

// float is a thing's key; one in three is none.
func float(x thing) float64 {
	if x.key%3 == 0 {
		return math.NaN()
	}
	return float64(x.key)
}

// plainEntry is a thing with its number.
type plainEntry struct {
	x  thing
	id int
}

// plain is what the chapter's words say of an agenda.
type plain struct {
	less    less
	entries []plainEntry
	last    int
}

// first is the place of the entry ahead of which none comes, of several such the one with the least number; -1, if there is none.
func (p *plain) first() int {
	best := -1
	for i, a := range p.entries {
		ahead := slices.ContainsFunc(p.entries, func(b plainEntry) bool { return p.less(b.x, a.x) })
		if !ahead && (best < 0 || a.id < p.entries[best].id) {
			best = i
		}
	}
	return best
}

// find is the place of the entry of a number; -1, if there is none.
func (p *plain) find(id int) int {
	return slices.IndexFunc(p.entries, func(a plainEntry) bool { return a.id == id })
}

// remove takes an entry out.
func (p *plain) remove(i int) plainEntry {
	e := p.entries[i]
	p.entries = slices.Delete(p.entries, i, i+1)
	return e
}

// deed is a call: a number, and a thing, as its kind has them; a Drain is broken off behind id entries.
type deed struct {
	kind string
	id   int
	x    thing
}

// told is what a call answers, all of it.
type told struct {
	x   thing
	id  int
	ok  bool
	e   api.Errno
	all string
}

// kinds are all deeds that may change an agenda.
var kinds = []string{"Push", "Pop", "Set", "Drop", "Drain"}

// do does a deed to an agenda.
func do(a *agenda.Agenda[thing], d deed) (got told) {
	switch d.kind {
	case "Push":
		got.id, got.e = a.Push(d.x)
	case "Pop":
		got.x, got.id, got.ok = a.Pop()
	case "Set":
		got.e = a.Set(d.id, d.x)
	case "Drop":
		got.e = a.Drop(d.id)
	case "Drain":
		got.all = fmt.Sprint(some(a.Drain(), d.id))
	default:
		panic(d.kind)
	}
	return got
}

// some are so many of what is told, at least one, if there is any.
func some[T any](tell func(yield func(T) bool), count int) []T {
	var l []T
	for x := range tell {
		l = append(l, x)
		if len(l) >= count {
			break
		}
	}
	return l
}

// do does a deed to a plain agenda.
func (p *plain) do(d deed) told {
	switch d.kind {
	case "Push":
		p.last++
		p.entries = append(p.entries, plainEntry{d.x, p.last})
		return told{id: p.last}
	case "Pop":
		if i := p.first(); i >= 0 {
			e := p.remove(i)
			return told{x: e.x, id: e.id, ok: true}
		}
		return told{}
	case "Set":
		i := p.find(d.id)
		if i < 0 {
			return told{e: 90}
		}
		p.entries[i].x = d.x
	case "Drop":
		i := p.find(d.id)
		if i < 0 {
			return told{e: 90}
		}
		p.remove(i)
	case "Drain":
		var l []thing
		for len(p.entries) > 0 && (len(l) == 0 || len(l) < d.id) {
			l = append(l, p.remove(p.first()).x)
		}
		return told{all: fmt.Sprint(l)}
	}
	return told{}
}

// numbers are all that were given, and some that were not.
func (p *plain) numbers() []int {
	l := []int{-1, 0, math.MinInt, math.MaxInt, -p.last, p.last + 1, p.last + 2, 1 << 32}
	for id := 1; id <= p.last; id++ {
		l = append(l, id)
	}
	return l
}

// wrong tells where an agenda stands otherwise than a plain one, "" if nowhere.
func wrong(a *agenda.Agenda[thing], p *plain) string {
	if n := a.Len(); n != len(p.entries) {
		return fmt.Sprintf("Len() = %d, want %d", n, len(p.entries))
	}
	x, id, ok := a.First()
	var want plainEntry
	if i := p.first(); i >= 0 {
		want = p.entries[i]
	}
	if x != want.x || id != want.id || ok != (len(p.entries) > 0) {
		return fmt.Sprintf("First() = %v, %d, %v, want %v of %v", x, id, ok, want, p.entries)
	}
	return wrongGet(a, p)
}

// wrongGet tells where an agenda's entries, by their numbers, are others than a plain one's, "" if nowhere.
func wrongGet(a *agenda.Agenda[thing], p *plain) string {
	for _, id := range p.numbers() {
		x, ok := a.Get(id)
		i := p.find(id)
		if ok != (i >= 0) || !ok && x != (thing{}) || ok && x != p.entries[i].x {
			return fmt.Sprintf("Get(%d) = %v, %v, of %v", id, x, ok, p.entries)
		}
	}
	return ""
}

// follow does deeds to an agenda and to a plain one, and fails where they tell or stand otherwise.
func follow(t testing.TB, l less, deeds []deed) {
	t.Helper()
	a, p := agenda.New(l), &plain{less: l}
	for i, d := range deeds {
		if got, want := do(a, d), p.do(d); got != want {
			t.Fatalf("%v: %+v, want %+v", deeds[max(0, i-20):i+1], got, want)
		}
		if s := wrong(a, p); s != "" {
			t.Fatalf("%v: %s", deeds[max(0, i-20):i+1], s)
		}
	}
}

// dice is a row of numbers that looks like chance, the same one each time.
type dice uint64

// to is a number from 0 to n-1.
func (d *dice) to(n int) int {
	*d += 0x9e3779b97f4a7c15
	z := uint64(*d)
	z = (z ^ z>>30) * 0xbf58476d1ce4e5b9
	z = (z ^ z>>27) * 0x94d049bb133111eb
	return int((z ^ z>>31) % uint64(n))
}

// thing is one of some keys, negative ones among them, with a tag of its own.
func (d *dice) thing(keys int) thing {
	return thing{key: d.to(keys) - keys/4, tag: d.to(1 << 30)}
}

// number is most often one of an entry that is there, else any.
func (d *dice) number(p *plain) int {
	if len(p.entries) > 0 && d.to(6) > 0 {
		return p.entries[d.to(len(p.entries))].id
	}
	l := p.numbers()
	return l[d.to(len(l))]
}

// deeds are so many deeds to an agenda that grows to about so many entries.
func (d *dice) deeds(count, size, keys int) []deed {
	p := &plain{less: orders()["rising"]}
	var out []deed
	for range count {
		x := deed{kind: kinds[d.to(4)], id: d.number(p), x: d.thing(keys)}
		if len(p.entries) < size && d.to(3) > 0 {
			x.kind = "Push"
		}
		if d.to(40) == 0 {
			x.kind, x.id = "Drain", d.to(size+2)
		}
		p.do(x)
		out = append(out, x)
	}
	return out
}
