package slotlist_test

import (
	"fmt"
	"math"
	"slices"
	"testing"

	"rampart/api"
	"rampart/slotlist"
)

// plain is what the chapter's words say: lists of numbers, and how many nodes there are.
type plain struct {
	nodes int
	lists [][]int
}

// deed is a call: a list and a node, or two lists, as its kind has them.
type deed struct {
	kind string
	a, b int
}

// told is what a call answers, all of it.
type told struct {
	n  int
	ok bool
	e  api.Errno
}

// kinds is all calls that may change something.
func kinds() []string { return []string{"Push", "PushFront", "Pop", "Drop", "Move", "Take"} }

// do does a deed to lists.
func do(l *slotlist.Lists, d deed) told {
	switch d.kind {
	case "Push":
		return told{e: l.Push(d.a, d.b)}
	case "PushFront":
		return told{e: l.PushFront(d.a, d.b)}
	case "Pop":
		n, ok := l.Pop(d.a)
		return told{n: n, ok: ok}
	case "Drop":
		return told{e: l.Drop(d.b)}
	case "Move":
		return told{e: l.Move(d.a, d.b)}
	case "Take":
		return told{e: l.Take(d.a, d.b)}
	}
	panic(d.kind)
}

// place is the list in which a node is, and where there; -1, -1: in none.
func (p *plain) place(node int) (int, int) {
	for k, l := range p.lists {
		if i := slices.Index(l, node); i >= 0 {
			return k, i
		}
	}
	return -1, -1
}

func (p *plain) hasList(k int) bool { return k >= 0 && k < len(p.lists) }
func (p *plain) hasNode(n int) bool { return n >= 0 && n < p.nodes }

// remove takes a node out of where it is, if it is anywhere.
func (p *plain) remove(node int) {
	if k, i := p.place(node); k >= 0 {
		p.lists[k] = slices.Delete(p.lists[k], i, i+1)
	}
}

// do does a deed to plain lists.
func (p *plain) do(d deed) told {
	in, _ := p.place(d.b)
	switch d.kind {
	case "Pop":
		if !p.hasList(d.a) || len(p.lists[d.a]) == 0 {
			return told{}
		}
		n := p.lists[d.a][0]
		p.lists[d.a] = p.lists[d.a][1:]
		return told{n: n, ok: true}
	case "Take":
		if !p.hasList(d.a) || !p.hasList(d.b) {
			return told{e: 5}
		}
		if d.a != d.b {
			p.lists[d.a] = append(p.lists[d.a], p.lists[d.b]...)
			p.lists[d.b] = nil
		}
		return told{}
	case "Drop":
		if !p.hasNode(d.b) {
			return told{e: 5}
		}
		if in < 0 {
			return told{e: 51}
		}
		p.remove(d.b)
		return told{}
	}
	if !p.hasList(d.a) || !p.hasNode(d.b) {
		return told{e: 5}
	}
	if d.kind == "Move" {
		p.remove(d.b)
	} else if in >= 0 {
		return told{e: 50}
	}
	if d.kind == "PushFront" {
		p.lists[d.a] = slices.Insert(p.lists[d.a], 0, d.b)
	} else {
		p.lists[d.a] = append(p.lists[d.a], d.b)
	}
	return told{}
}

// made is lists that New made.
func made(t testing.TB, nodes, lists int) *slotlist.Lists {
	t.Helper()
	l, e := slotlist.New(nodes, lists)
	if l == nil || e != api.OK {
		t.Fatalf("New(%d, %d) = %v, %d", nodes, lists, l, e)
	}
	return l
}

// filled is lists of so many nodes, with these in them.
func filled(t testing.TB, nodes int, lists ...[]int) *slotlist.Lists {
	t.Helper()
	l := made(t, nodes, len(lists))
	for k, row := range lists {
		for _, n := range row {
			if e := l.Push(k, n); e != api.OK {
				t.Fatalf("Push(%d, %d) = %d", k, n, e)
			}
		}
	}
	return l
}

// all is what All tells.
func all(l *slotlist.Lists, list int) []int { return slices.Collect(l.All(list)) }

// wrong tells where lists stand otherwise than plain ones, "" if nowhere.
func wrong(l *slotlist.Lists, p *plain) string {
	for k := -1; k <= len(p.lists); k++ {
		var want []int
		if p.hasList(k) {
			want = slices.Clone(p.lists[k])
		}
		if n := l.Len(k); n != len(want) {
			return fmt.Sprintf("Len(%d) = %d, want %d", k, n, len(want))
		}
		if got := all(l, k); !slices.Equal(got, want) {
			return fmt.Sprintf("All(%d) = %v, want %v", k, got, want)
		}
		slices.Reverse(want)
		if got := slices.Collect(l.Back(k)); !slices.Equal(got, want) {
			return fmt.Sprintf("Back(%d) = %v, want %v", k, got, want)
		}
	}
	for n := -1; n <= p.nodes; n++ {
		k, _ := p.place(n)
		got, ok := l.Of(n)
		if ok != (k >= 0) || got != max(k, 0) {
			return fmt.Sprintf("Of(%d) = %d, %v, want list %d", n, got, ok, k)
		}
	}
	return ""
}

// stand fails if lists of so many nodes stand otherwise than told.
func stand(t testing.TB, what string, l *slotlist.Lists, nodes int, lists ...[]int) {
	t.Helper()
	if s := wrong(l, &plain{nodes: nodes, lists: lists}); s != "" {
		t.Errorf("%s: %s", what, s)
	}
}

// follow does deeds to lists and to plain ones, and fails where they tell or stand otherwise.
func follow(t testing.TB, nodes, lists int, deeds []deed) {
	t.Helper()
	l, p := made(t, nodes, lists), &plain{nodes: nodes, lists: make([][]int, lists)}
	for i, d := range deeds {
		if got, want := do(l, d), p.do(d); got != want {
			t.Fatalf("%d nodes, %d lists, %v: %v, want %v", nodes, lists, deeds[:i+1], got, want)
		}
		if s := wrong(l, p); s != "" {
			t.Fatalf("%d nodes, %d lists, %v: %s", nodes, lists, deeds[:i+1], s)
		}
	}
}

// dice is a row of numbers that looks like chance, the same one each time.
type dice uint64

// to is a number from 0 to n-1.
func (d *dice) to(n int) int {
	*d += 0x9e3779b97f4a7c15
	z := uint64(*d)
	z = (z ^ z>>30) * 0xbf58476d1ce4e5b9
	z = (z ^ z>>27) * 0x94d049bb133111eb
	return int((z ^ z>>31) % uint64(n))
}

// near is a number about from 0 to n-1, seldom one beyond it.
func (d *dice) near(n int) int {
	if d.to(12) > 0 && n > 0 {
		return d.to(n)
	}
	return []int{-1, n, n + 1, -n, math.MinInt, math.MaxInt, 1 << 32, api.MaxNodes}[d.to(8)]
}

// deeds is so many deeds to so many nodes and lists.
func (d *dice) deeds(count, nodes, lists int) []deed {
	var out []deed
	for range count {
		x := deed{kind: kinds()[d.to(6)], a: d.near(lists), b: d.near(nodes)}
		if x.kind == "Take" {
			x.b = d.near(lists)
		}
		out = append(out, x)
	}
	return out
}
