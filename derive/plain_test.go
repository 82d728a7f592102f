package derive_test

import (
	"fmt"
	"math"
	"slices"
	"testing"

	"rampart/api"
	"rampart/derive"
)

// none is the parent of a root.
const none = -1

// plainNode is one that is there, and from which it was derived.
type plainNode struct {
	node, parent int
}

// plain is what the chapter's words say of a forest: how many nodes it has, and those that are there, in the order in which they came.
type plain struct {
	nodes int
	came  []plainNode
}

// deed is a call: a parent and a node, a node and a root, or a node alone (a), as its kind has them.
type deed struct {
	kind string
	a, b int
}

// told is what a call answers, all of it; lists as texts.
type told struct {
	n    int
	ok   bool
	list string
	e    api.Errno
}

// changing are the calls that may change something, asking the others.
var (
	changing = []string{"Root", "Derive", "Cut", "Prune"}
	asking   = []string{"Has", "Parent", "Depth", "Under", "Below", "Len"}
)

// far are numbers that no forest has as a node's.
var far = []int{-1, -2, -1024, 1024, 1025, 65536, 1 << 32, -1 << 32, math.MinInt, math.MinInt + 1, math.MaxInt}

// do does a deed to a forest.
func do(f *derive.Forest, d deed) (got told) {
	var l []int
	switch d.kind {
	case "Root":
		got.e = f.Root(d.a)
	case "Derive":
		got.e = f.Derive(d.a, d.b)
	case "Cut":
		l, got.e = f.Cut(d.a)
	case "Prune":
		l, got.e = f.Prune(d.a)
	case "Has":
		got.ok = f.Has(d.a)
	case "Parent":
		got.n, got.ok = f.Parent(d.a)
	case "Depth":
		got.n = f.Depth(d.a)
	case "Under":
		got.ok = f.Under(d.a, d.b)
	case "Below":
		l = slices.Collect(f.Below(d.a))
	case "Len":
		got.n = f.Len()
	default:
		panic(d.kind)
	}
	got.list = text(l)
	return got
}

// text is a list as a text, the same one for nil and for an empty one.
func text(l []int) string {
	if len(l) == 0 {
		return ""
	}
	return fmt.Sprint(l)
}

func (p *plain) isNode(n int) bool { return n >= 0 && n < p.nodes }

// at is where a node stands among those that are there; -1: it is not there.
func (p *plain) at(node int) int {
	return slices.IndexFunc(p.came, func(x plainNode) bool { return x.node == node })
}

func (p *plain) has(node int) bool { return p.at(node) >= 0 }

// parent is from which a node was derived; none: it is a root, or not there.
func (p *plain) parent(node int) int {
	if i := p.at(node); i >= 0 {
		return p.came[i].parent
	}
	return none
}

// below are all below a node, in order.
func (p *plain) below(node int) []int {
	var l []int
	for _, x := range p.came {
		if x.parent == node {
			l = append(append(l, x.node), p.below(x.node)...)
		}
	}
	return l
}

// depth is how many a node is derived from.
func (p *plain) depth(node int) int {
	if !p.has(node) {
		return -1
	}
	return p.depth(p.parent(node)) + 1
}

// remove lets nodes go.
func (p *plain) remove(l []int) {
	p.came = slices.DeleteFunc(p.came, func(x plainNode) bool { return slices.Contains(l, x.node) })
}

// do does a deed to a plain forest.
func (p *plain) do(d deed) told {
	switch d.kind {
	case "Has":
		return told{ok: p.has(d.a)}
	case "Parent":
		up := p.parent(d.a)
		return told{n: max(up, 0), ok: up != none}
	case "Depth":
		return told{n: p.depth(d.a)}
	case "Under":
		return told{ok: p.has(d.a) && p.has(d.b) && (d.a == d.b || slices.Contains(p.below(d.b), d.a))}
	case "Below":
		if !p.has(d.a) {
			return told{}
		}
		return told{list: text(p.below(d.a))}
	case "Len":
		return told{n: len(p.came)}
	}
	return p.change(d)
}

// change does a deed that may change something.
func (p *plain) change(d deed) told {
	switch {
	case !p.isNode(d.a) || d.kind == "Derive" && !p.isNode(d.b):
		return told{e: 120}
	case d.kind == "Root" && p.has(d.a) || d.kind == "Derive" && p.has(d.b):
		return told{e: 121}
	case d.kind != "Root" && !p.has(d.a):
		return told{e: 122}
	}
	gone := []int{}
	switch d.kind {
	case "Root":
		p.came = append(p.came, plainNode{d.a, none})
	case "Derive":
		p.came = append(p.came, plainNode{d.b, d.a})
	case "Cut":
		gone = append([]int{d.a}, p.below(d.a)...)
	case "Prune":
		gone = p.below(d.a)
	}
	p.remove(gone)
	return told{list: text(gone)}
}

// made is a forest that New made.
func made(t testing.TB, nodes int) *derive.Forest {
	t.Helper()
	f, e := derive.New(nodes)
	if f == nil || e != api.OK {
		t.Fatalf("New(%d) = %v, %d", nodes, f, e)
	}
	return f
}

// grown is a forest of so many nodes, and a plain one, to which these came, each behind its parent.
func grown(t testing.TB, nodes int, came ...plainNode) (*derive.Forest, *plain) {
	t.Helper()
	f, p := made(t, nodes), &plain{nodes: nodes}
	for _, x := range came {
		must(t, f, p, x.deed())
	}
	return f, p
}

// deed is that by which a node comes.
func (x plainNode) deed() deed {
	if x.parent == none {
		return deed{"Root", x.node, 0}
	}
	return deed{"Derive", x.parent, x.node}
}

// must does a deed to a forest, and to a plain one, that must be done.
func must(t testing.TB, f *derive.Forest, p *plain, d deed) {
	t.Helper()
	got, want := do(f, d), p.do(d)
	if got != want || got.e != api.OK {
		t.Fatalf("%v: %+v, want %+v", d, got, want)
	}
}

// family is a forest of nine nodes: 0 with 2 (with 3, with 7), 1 and 8 below it, 5 alone; 4 and 6 are not there.
func family(t testing.TB) (*derive.Forest, *plain) {
	t.Helper()
	return grown(t, 9, plainNode{0, none}, plainNode{2, 0}, plainNode{1, 0}, plainNode{3, 2}, plainNode{5, none}, plainNode{7, 3}, plainNode{8, 0})
}

// below is what Below tells.
func below(f *derive.Forest, node int) []int { return slices.Collect(f.Below(node)) }

// wrong tells where a forest stands otherwise than a plain one, "" if nowhere.
func wrong(f *derive.Forest, p *plain) string {
	for _, kind := range asking {
		for a := -1; a <= p.nodes; a++ {
			for b := -1; b <= p.nodes; b++ {
				d := deed{kind, a, b}
				if got, want := do(f, d), p.do(d); got != want {
					return fmt.Sprintf("%v: %+v, want %+v", d, got, want)
				}
				if kind != "Under" {
					break
				}
			}
		}
	}
	return ""
}

// stands fails if a forest stands otherwise than a plain one.
func stands(t testing.TB, f *derive.Forest, p *plain, what ...any) {
	t.Helper()
	if s := wrong(f, p); s != "" {
		t.Fatalf("%v: %s", what, s)
	}
}

// follow does deeds to a forest and to a plain one, and fails where they tell or stand otherwise.
func follow(t testing.TB, f *derive.Forest, p *plain, deeds []deed) {
	t.Helper()
	for i, d := range deeds {
		if got, want := do(f, d), p.do(d); got != want {
			t.Fatalf("%d nodes, %v: %+v, want %+v", p.nodes, deeds[max(0, i-30):i+1], got, want)
		}
		stands(t, f, p, deeds[max(0, i-30):i+1])
	}
}

// copied is a plain forest that stands likewise.
func (p *plain) copied() *plain { return &plain{nodes: p.nodes, came: slices.Clone(p.came)} }

// dice is a row of numbers that looks like chance, the same one each time.
type dice uint64

// to is a number from 0 to n-1.
func (d *dice) to(n int) int {
	*d += 0x9e3779b97f4a7c15
	z := uint64(*d)
	z = (z ^ z>>30) * 0xbf58476d1ce4e5b9
	z = (z ^ z>>27) * 0x94d049bb133111eb
	return int((z ^ z>>31) % uint64(n))
}

// near is a node's number, seldom one that is none's.
func (d *dice) near(p *plain) int {
	if d.to(16) > 0 && p.nodes > 0 {
		return d.to(p.nodes)
	}
	return append(far, p.nodes, p.nodes+1)[d.to(len(far)+2)]
}

// there is a node that is there, or any number, seldom or if none is.
func (d *dice) there(p *plain) int {
	if len(p.came) > 0 && d.to(8) > 0 {
		return p.came[d.to(len(p.came))].node
	}
	return d.near(p)
}

// deed is one that may change a plain forest, most often one that can be done to it as it stands; often is how many of ten let a node come.
func (d *dice) deed(p *plain, often int) deed {
	if d.to(10) >= often {
		return deed{[]string{"Cut", "Prune"}[d.to(2)], d.there(p), d.near(p)}
	}
	if d.to(5) == 0 {
		return deed{"Root", d.near(p), d.near(p)}
	}
	return deed{"Derive", d.there(p), d.near(p)}
}

// deeds are so many deeds to a plain forest, more that let nodes come and more that let them go in turns.
func (d *dice) deeds(count int, p *plain) []deed {
	p = p.copied()
	var out []deed
	for i := range count {
		x := d.deed(p, 9-4*(i/40%2))
		p.do(x)
		out = append(out, x)
	}
	return out
}
