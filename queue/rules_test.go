package queue_test

import (
	"math"
	"slices"
	"sync"
	"testing"

	"rampart/api"
	"rampart/queue"
)

// choices are the deeds of which all short rows are made: of two lanes, of one that is none, with all numbers and epochs that come up.
func choices() []deed {
	out := []deed{{kind: "Take"}, {kind: "Check"}}
	for _, lane := range []int{-1, 0, 1, 2} {
		out = append(out, deed{kind: "Claim", lane: lane}, deed{kind: "Reset", lane: lane})
		for epoch := range 3 {
			out = append(out, deed{kind: "Retire", msg: api.PlainMsg{Lane: lane, Epoch: epoch}})
			for n := range 4 {
				c := api.Claim{Lane: lane, N: n, Epoch: epoch}
				out = append(out, deed{kind: "Publish", claim: c, payload: uint64(10*lane + n)}, deed{kind: "Ready", claim: c})
			}
		}
	}
	return out
}

// P10.2 to P10.4, rules 1, 2 and 4: each queue to which a short row of deeds leads, and each deed there, the refused ones too.
func TestAllShortRows(t *testing.T) {
	for _, ways := range [][]bool{{true, false}, {false, true}} {
		first := made(t, []int{1, 2}, ways)
		seen := map[string]bool{text(first): true}
		row := []api.Queue{first}
		for range 8 {
			var next []api.Queue
			for _, q := range row {
				for _, d := range choices() {
					p, _ := tells(t, q, d)
					if s := text(p); !seen[s] {
						seen[s] = true
						next = append(next, p)
					}
				}
			}
			row = next
		}
		if len(seen) < 300 {
			t.Errorf("no more than %d queues", len(seen))
		}
	}
}

// P10.2 to P10.4, rules 1, 2 and 4: long rows of deeds, wrong ones among them, with few lanes and many, small credits and great ones.
func TestLongRows(t *testing.T) {
	d := dice(10)
	for round := range 80 {
		follow(t, &d, d.new(t, round%6, 1+d.to(6)), 200)
	}
	for range 4 {
		follow(t, &d, d.new(t, 16, 64), 400)
		follow(t, &d, d.new(t, 1, 64), 400)
	}
}

// P10.1 to P10.4, rules 1, 2 and 4: hand-made queues that may be, and what is done to them.
func TestHandMade(t *testing.T) {
	d := dice(11)
	for range 1500 {
		q := d.queue()
		if !mayBe(q) {
			t.Fatalf("it may not be:\n%s", text(q))
		}
		tells(t, q, deed{kind: "Check"})
		follow(t, &d, q, 8)
	}
}

// spoil changes one number of a queue, or lets a list be another one.
func (d *dice) spoil(q *api.Queue) {
	number := d.edge()
	if d.to(2) == 0 {
		number = d.to(12) - 2
	}
	if len(q.Q) > 0 && d.to(3) == 0 {
		m := &q.Q[d.to(len(q.Q))]
		*[]*int{&m.Lane, &m.Epoch, &m.N}[d.to(3)] = number
		return
	}
	if len(q.Lanes) == 0 || d.to(10) == 0 {
		q.Q = append(q.Q, api.PlainMsg{Lane: d.to(3), Epoch: d.to(3), N: number})
		return
	}
	l := &q.Lanes[d.to(len(q.Lanes))]
	switch d.to(3) {
	case 0:
		*[]*int{&l.Credit, &l.Left, &l.Next, &l.Epoch}[d.to(4)] = number
	case 1:
		l.Claims = slices.Insert(l.Claims, d.to(len(l.Claims)+1), number)
	default:
		for i := range l.Claims {
			if d.to(2) == 0 {
				l.Claims[i] = number
			}
		}
	}
}

// P10.1, rules 1, 2 and 4: hand-made queues of which most may not be: Check tells which, and all other calls refuse them ahead of all else.
func TestSpoiled(t *testing.T) {
	d := dice(12)
	bad := 0
	for range 4000 {
		q := d.queue()
		for range 1 + d.to(2) {
			d.spoil(&q)
		}
		if !mayBe(q) {
			bad++
		}
		tells(t, q, deed{kind: "Check"})
		for range 3 {
			x := d.deed(q, q.Q)
			x.kind = kinds[d.to(len(kinds))]
			tells(t, q, x)
		}
	}
	if bad < 1000 || bad > 3500 {
		t.Errorf("%d may not be", bad)
	}
}

// Rules 1 and 2: queues that are all zero, or all of one number, and all calls with any numbers.
func TestAnyNumbers(t *testing.T) {
	for _, n := range edges {
		for _, q := range []api.Queue{
			{},
			{Lanes: make([]api.PlainLane, 3)},
			{Q: make([]api.PlainMsg, 3)},
			{Lanes: []api.PlainLane{{Credit: n, Left: n, Claims: []int{n, n}, Next: n, Epoch: n}}, Q: []api.PlainMsg{{Lane: n, Epoch: n, N: n}}},
			{Lanes: []api.PlainLane{{Credit: n, Left: n, Next: n, Epoch: n}}},
			{Lanes: []api.PlainLane{{Credit: math.MaxInt, Left: n, Next: n, Epoch: n}}, Q: []api.PlainMsg{{Epoch: n}}},
			{Lanes: []api.PlainLane{{Credit: 64, Left: n, Claims: []int{n}, Next: math.MaxInt, Epoch: n}}},
			made(t, []int{64}, []bool{true}),
			base(),
		} {
			for _, k := range edges {
				for _, kind := range kinds {
					tells(t, q, deed{kind: kind, lane: n, claim: api.Claim{Lane: k, N: n, Epoch: n}, msg: api.PlainMsg{Lane: k, Epoch: n, N: n}, payload: uint64(n)})
				}
			}
		}
	}
}

// Rule 2: where several errors apply, the one that is named first.
func TestErrorsInOrder(t *testing.T) {
	bad := base()
	bad.Lanes[2].Left = 65
	empty := api.Queue{Lanes: []api.PlainLane{{Credit: 0}}}
	spent := api.Queue{Lanes: []api.PlainLane{{Credit: 1, Next: last, Epoch: last, Claims: []int{4}}}}
	for _, x := range []struct {
		q    api.Queue
		d    deed
		want api.Errno
	}{
		{bad, deed{kind: "Claim", lane: -1}, 100},
		{bad, deed{kind: "Claim", lane: 1}, 100},
		{bad, deed{kind: "Publish", claim: api.Claim{Lane: 9}}, 100},
		{bad, deed{kind: "Publish", claim: api.Claim{Lane: 0, N: 5, Epoch: 4}}, 100},
		{bad, deed{kind: "Retire", msg: api.PlainMsg{Lane: 9}}, 100},
		{bad, deed{kind: "Retire", msg: api.PlainMsg{Lane: 0, Epoch: 9}}, 100},
		{bad, deed{kind: "Reset", lane: 3}, 100},
		{bad, deed{kind: "Reset", lane: 0}, 100},
		{empty, deed{kind: "Take"}, 100},
		{spent, deed{kind: "Claim"}, 101},
		{spent, deed{kind: "Reset"}, 104},
		{spent, deed{kind: "Publish", claim: api.Claim{Lane: 1, N: 5, Epoch: last}}, 5},
		{spent, deed{kind: "Publish", claim: api.Claim{N: 5, Epoch: last}}, 102},
		{spent, deed{kind: "Retire", msg: api.PlainMsg{Epoch: last}}, 102},
	} {
		refuses(t, x.q, x.d, x.want)
	}
}

// Rule 4: Same changes nothing of what it is handed; nor does New, whose answers share nothing.
func TestNothingChanged(t *testing.T) {
	a, b := roomy(base()), roomy(base())
	b.Q[3].Payload++
	before := text(whole(a)) + text(whole(b))
	queue.Same(a, b)
	queue.Same(a, a)
	queue.Same(b, a)
	if s := text(whole(a)) + text(whole(b)); s != before {
		t.Errorf("Same: %s, and was %s", s, before)
	}
	credits, twoway := []int{3, 4}, []bool{true, false}
	one, two := made(t, credits, twoway), made(t, credits, twoway)
	want := text(two)
	scribble(one)
	if s := text(two); s != want {
		t.Errorf("New: %s, and was %s", s, want)
	}
}

// Rule 4: a queue whose lists are one another's memory is told in memory of its own.
func TestSharedArgument(t *testing.T) {
	row := []int{3, 5, 8, 9}
	q := base()
	q.Lanes[0].Claims = row[:2]
	q.Lanes[2] = api.PlainLane{Credit: 9, Left: 2, Claims: row[:3], Next: 9}
	for _, d := range []deed{
		{kind: "Claim", lane: 0}, {kind: "Claim", lane: 2}, {kind: "Take"}, {kind: "Reset", lane: 1},
		{kind: "Publish", claim: api.Claim{Lane: 0, N: 3, Epoch: 4}}, {kind: "Publish", claim: api.Claim{Lane: 2, N: 3}},
		{kind: "Retire", msg: api.PlainMsg{Lane: 2}}, {kind: "Retire", msg: api.PlainMsg{Lane: 0, Epoch: 4}},
	} {
		next, got := call(q, d)
		if want := plain(q, d); got != want {
			t.Fatalf("%v: %+v, want %+v", d, got, want)
		}
		if !slices.Equal(row, []int{3, 5, 8, 9}) {
			t.Fatalf("%v: what is handed in is %v", d, row)
		}
		apart(t, next)
	}
}

// P10.1: Same of two that are any is what their texts say.
func TestSameAny(t *testing.T) {
	d := dice(13)
	same := 0
	for range 4000 {
		a := d.queue()
		b := kept(a)
		if d.to(3) > 0 {
			d.spoil(&b)
		}
		want := text(a) == text(b)
		if want {
			same++
		}
		if queue.Same(a, b) != want || queue.Same(b, a) != want {
			t.Fatalf("Same = %v of\n%sand\n%s", !want, text(a), text(b))
		}
		c := d.queue()
		if queue.Same(a, c) != (text(a) == text(c)) {
			t.Fatalf("Same = %v of\n%sand\n%s", queue.Same(a, c), text(a), text(c))
		}
	}
	if same < 500 || same > 3500 {
		t.Errorf("%d are the same", same)
	}
}

// Rule 5: the same calls tell the same, whatever is called meanwhile, from several sides at once and with one queue too.
func TestSameAgain(t *testing.T) {
	d := dice(14)
	q := d.new(t, 4, 5)
	var qs []api.Queue
	var deeds []deed
	var want []told
	walk(&d, q, 600, "", func(x deed, got told, next api.Queue) {
		qs, deeds, want = append(qs, q), append(deeds, x), append(want, got)
		q = next
	})
	var all sync.WaitGroup
	for side := range 8 {
		all.Go(func() {
			for i := range deeds {
				i = (i + 70*side) % len(deeds)
				call(base(), deeds[i])
				if _, got := call(qs[i], deeds[i]); got != want[i] {
					t.Errorf("%v: %+v, want %+v", deeds[i], got, want[i])
					return
				}
			}
		})
	}
	all.Wait()
}

// Any bytes, read as deeds, and as a queue.
func FuzzQueue(f *testing.F) {
	f.Add(uint64(1), []byte{0, 1, 0, 0, 1, 1, 0, 7, 2, 0, 0, 0, 3, 1, 0, 0, 4, 1, 0, 0})
	f.Add(uint64(77), []byte{})
	f.Fuzz(func(t *testing.T, seed uint64, b []byte) {
		if len(b) > 400 {
			return
		}
		d := dice(seed)
		q := d.queue()
		if seed%3 == 0 {
			d.spoil(&q)
		}
		for c := range slices.Chunk(b, 4) {
			if len(c) < 4 {
				break
			}
			lane, n, epoch := int(int8(c[1])), int(int8(c[2])), int(int8(c[3]))
			q, _ = tells(t, q, deed{kind: kinds[int(c[0])%len(kinds)], lane: lane, claim: api.Claim{Lane: lane, N: n, Epoch: epoch}, msg: api.PlainMsg{Lane: lane, Epoch: epoch, N: n}, payload: uint64(n)})
		}
	})
}
