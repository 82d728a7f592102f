package queue_test

import (
	"math"
	"slices"
	"testing"

	"rampart/api"
	"rampart/queue"
)

// must fails if an error is another one.
func must(t testing.TB, got, want api.Errno, what string) {
	t.Helper()
	if got != want {
		t.Fatalf("%s: %d, want %d", what, got, want)
	}
}

// is fails if a queue stands otherwise.
func is(t testing.TB, got, want api.Queue, what string) {
	t.Helper()
	if text(got) != text(want) {
		t.Fatalf("%s:\n%swant\n%s", what, text(got), text(want))
	}
}

// claims claims so many places of a lane.
func claims(t testing.TB, q api.Queue, lane, count int) (api.Queue, []api.Claim) {
	t.Helper()
	var l []api.Claim
	for range count {
		next, got := tells(t, q, deed{kind: "Claim", lane: lane})
		must(t, got.e, api.OK, "Claim")
		q, l = next, append(l, got.claim)
	}
	return q, l
}

// publishes claims and publishes messages of a lane, with these payloads.
func publishes(t testing.TB, q api.Queue, lane int, payloads ...uint64) api.Queue {
	t.Helper()
	for _, p := range payloads {
		next, l := claims(t, q, lane, 1)
		next, got := tells(t, next, deed{kind: "Publish", claim: l[0], payload: p})
		must(t, got.e, api.OK, "Publish")
		q = next
	}
	return q
}

// takes takes so many messages.
func takes(t testing.TB, q api.Queue, count int) (api.Queue, []api.PlainMsg) {
	t.Helper()
	var l []api.PlainMsg
	for range count {
		next, got := tells(t, q, deed{kind: "Take"})
		must(t, got.e, api.OK, "Take")
		q, l = next, append(l, got.msg)
	}
	return q, l
}

// refuses fails if a deed does not tell that error, with zero beside it.
func refuses(t testing.TB, q api.Queue, d deed, want api.Errno) {
	t.Helper()
	if _, got := do(t, q, d); got != (told{e: want}) {
		t.Fatalf("%+v of\n%s: %+v, want %d", d, text(q), got, want)
	}
}

// The chapter's example.
func TestExample(t *testing.T) {
	q := made(t, []int{1, 2}, []bool{true, false})
	q, one, e := queue.Claim(q, 1)
	if one != (api.Claim{Lane: 1, N: 0, Epoch: 0}) || e != api.OK {
		t.Errorf("the first claim: %v, %d", one, e)
	}
	q, two, e := queue.Claim(q, 1)
	if two != (api.Claim{Lane: 1, N: 1, Epoch: 0}) || e != api.OK {
		t.Errorf("the second claim: %v, %d", two, e)
	}
	if p, e := queue.Publish(q, two, 9); e != 103 || p.Lanes != nil || p.Q != nil {
		t.Errorf("Publish of the second first: %v, %d", p, e)
	}
	if queue.Ready(q, two) || !queue.Ready(q, one) {
		t.Errorf("Ready: %v, %v", queue.Ready(q, one), queue.Ready(q, two))
	}
	is(t, q, api.Queue{Lanes: []api.PlainLane{{Credit: 1, TwoWay: true, Left: 1}, {Credit: 2, Claims: []int{0, 1}, Next: 2}}}, "the queue")
}

// P10.1: what New makes, and of what it makes nothing.
func TestNew(t *testing.T) {
	many := func(n, credit int) []int { return slices.Repeat([]int{credit}, n) }
	ways := func(n int) []bool { return make([]bool, n) }
	for _, x := range []struct {
		name    string
		credits []int
		twoway  []bool
		want    api.Errno
	}{
		{"nil", nil, nil, 0},
		{"empty", []int{}, []bool{}, 0},
		{"nil and empty", nil, []bool{}, 0},
		{"one", []int{1}, []bool{true}, 0},
		{"two", []int{64, 1}, []bool{false, true}, 0},
		{"16 lanes", many(16, 64), ways(16), 0},
		{"15 lanes", many(15, 1), ways(15), 0},
		{"17 lanes", many(17, 1), ways(17), 100},
		{"very many", many(1<<16, 1), ways(1 << 16), 100},
		{"credit 0", []int{0}, []bool{true}, 100},
		{"credit 65", []int{65}, []bool{true}, 100},
		{"credit -1", []int{-1}, []bool{false}, 100},
		{"the least", []int{math.MinInt}, []bool{false}, 100},
		{"the greatest", []int{math.MaxInt}, []bool{false}, 100},
		{"the last is wrong", append(many(15, 7), 0), ways(16), 100},
		{"the first is wrong", append([]int{65}, many(15, 7)...), ways(16), 100},
		{"one more credit", []int{1, 2}, []bool{true}, 1},
		{"one more way", []int{1}, []bool{true, false}, 1},
		{"no way", []int{1}, nil, 1},
		{"no credit", nil, []bool{true}, 1},
		{"unlike, and wrong", []int{0, 0}, []bool{true}, 1},
		{"unlike, and too many", many(17, 1), ways(16), 1},
	} {
		credits, twoway := slices.Clone(x.credits), slices.Clone(x.twoway)
		q, e := queue.New(credits, twoway)
		if e != x.want {
			t.Errorf("%s: %d, want %d", x.name, e, x.want)
			continue
		}
		if !slices.Equal(credits, x.credits) || !slices.Equal(twoway, x.twoway) {
			t.Errorf("%s: what is handed in is changed: %v, %v", x.name, credits, twoway)
		}
		clear(credits)
		clear(twoway)
		var want api.Queue
		for i, c := range x.credits {
			if e == api.OK {
				want.Lanes = append(want.Lanes, api.PlainLane{Credit: c, TwoWay: x.twoway[i], Left: c})
			}
		}
		is(t, q, want, x.name)
		if e == api.OK {
			must(t, queue.Check(q), api.OK, x.name)
		}
	}
}

// base is a queue with all that a queue may have: lane 0 is one-way and has claims, messages, and what is taken; lane 1 is two-way and full; lane 2 is new.
func base() api.Queue {
	return api.Queue{
		Lanes: []api.PlainLane{
			{Credit: 9, Left: 2, Claims: []int{3, 5, 8}, Next: 9, Epoch: 4},
			{Credit: 2, TwoWay: true, Next: 7, Epoch: 1},
			{Credit: 64, TwoWay: true, Left: 64},
		},
		Q: []api.PlainMsg{{Lane: 0, Epoch: 4, N: 1, Payload: 11}, {Lane: 1, Epoch: 1, N: 5, Payload: 12}, {Lane: 0, Epoch: 4, N: 2, Payload: 13}, {Lane: 1, Epoch: 1, N: 6, Payload: 14}},
	}
}

// change is of a queue: may it be behind it?
type change struct {
	name string
	make func(q *api.Queue)
	may  bool
}

// laneChanges are of lanes, of what is left, and of numbers.
func laneChanges() []change {
	return []change{
		{"as it is", func(q *api.Queue) {}, true},
		{"nothing", func(q *api.Queue) { *q = api.Queue{} }, true},
		{"empty lists", func(q *api.Queue) { *q = api.Queue{Lanes: []api.PlainLane{}, Q: []api.PlainMsg{}} }, true},
		{"16 lanes", func(q *api.Queue) { q.Lanes = append(q.Lanes, slices.Repeat(q.Lanes[2:], 13)...) }, true},
		{"17 lanes", func(q *api.Queue) { q.Lanes = append(q.Lanes, slices.Repeat(q.Lanes[2:], 14)...) }, false},
		{"credit 64", func(q *api.Queue) { q.Lanes[0].Credit = 64 }, true},
		{"credit 65", func(q *api.Queue) { q.Lanes[0].Credit = 65 }, false},
		{"credit 65, all left", func(q *api.Queue) { q.Lanes[2] = api.PlainLane{Credit: 65, Left: 65} }, false},
		{"credit 1", func(q *api.Queue) { q.Lanes[2] = api.PlainLane{Credit: 1, Left: 1} }, true},
		{"credit 0", func(q *api.Queue) { q.Lanes[2] = api.PlainLane{} }, false},
		{"credit below 0", func(q *api.Queue) { q.Lanes[2] = api.PlainLane{Credit: -1, Left: -1} }, false},
		{"the least credit", func(q *api.Queue) { q.Lanes[2].Credit = math.MinInt }, false},
		{"the greatest credit", func(q *api.Queue) { q.Lanes[2].Credit = math.MaxInt }, false},
		{"a far credit", func(q *api.Queue) { q.Lanes[2].Credit, q.Lanes[2].Left = math.MinInt, 64 }, false},
		{"left 0", func(q *api.Queue) { q.Lanes[2].Left = 0 }, true},
		{"left below 0", func(q *api.Queue) { q.Lanes[2].Left = -1 }, false},
		{"left below 0, and spent", func(q *api.Queue) { q.Lanes[0].Left = -1 }, false},
		{"left 63", func(q *api.Queue) { q.Lanes[2].Left = 63 }, true},
		{"left is more than the credit", func(q *api.Queue) { q.Lanes[2].Left = 65 }, false},
		{"left is more than a small credit", func(q *api.Queue) { q.Lanes[2].Credit, q.Lanes[2].Left = 3, 4 }, false},
		{"the least left", func(q *api.Queue) { q.Lanes[2].Left = math.MinInt }, false},
		{"the greatest left", func(q *api.Queue) { q.Lanes[2].Left = math.MaxInt }, false},
		{"next 0", func(q *api.Queue) { q.Lanes[1].Next = 0 }, true},
		{"next below 0", func(q *api.Queue) { q.Lanes[1].Next = -1 }, false},
		{"the last next", func(q *api.Queue) { q.Lanes[0].Next = last }, true},
		{"behind the last next", func(q *api.Queue) { q.Lanes[0].Next = last + 1 }, false},
		{"behind the last next, no claim", func(q *api.Queue) { q.Lanes[1].Next = last + 1 }, false},
		{"the least next", func(q *api.Queue) { q.Lanes[0].Next = math.MinInt }, false},
		{"the greatest next", func(q *api.Queue) { q.Lanes[0].Next = math.MaxInt }, false},
		{"epoch 0", func(q *api.Queue) { q.Lanes[2].Epoch = 0 }, true},
		{"epoch below 0", func(q *api.Queue) { q.Lanes[2].Epoch = -1 }, false},
		{"the last epoch", func(q *api.Queue) { q.Lanes[2].Epoch = last }, true},
		{"behind the last epoch", func(q *api.Queue) { q.Lanes[2].Epoch = last + 1 }, false},
		{"the greatest epoch", func(q *api.Queue) { q.Lanes[2].Epoch = math.MaxInt }, false},
		{"messages of an epoch that may not be", func(q *api.Queue) { q.Lanes[1].Epoch, q.Q[1].Epoch, q.Q[3].Epoch = -1, -1, -1 }, false},
	}
}

// claimChanges are of claims.
func claimChanges() []change {
	return []change{
		{"claims from 0 on", func(q *api.Queue) { q.Lanes[0].Claims = []int{0, 1, 2} }, true},
		{"a claim below 0", func(q *api.Queue) { q.Lanes[0].Claims = []int{-1, 1, 2} }, false},
		{"the least claim", func(q *api.Queue) { q.Lanes[0].Claims = []int{math.MinInt, 1} }, false},
		{"the greatest claim", func(q *api.Queue) { q.Lanes[0].Claims = []int{1, math.MaxInt} }, false},
		{"the greatest claim, then the least", func(q *api.Queue) { q.Lanes[0].Claims = []int{math.MaxInt, math.MinInt} }, false},
		{"a claim twice", func(q *api.Queue) { q.Lanes[0].Claims = []int{3, 3, 8} }, false},
		{"the last claim twice", func(q *api.Queue) { q.Lanes[0].Claims = []int{3, 8, 8} }, false},
		{"claims that fall", func(q *api.Queue) { q.Lanes[0].Claims = []int{3, 2, 8} }, false},
		{"claims that fall at the end", func(q *api.Queue) { q.Lanes[0].Claims = []int{3, 8, 7} }, false},
		{"the claim of next", func(q *api.Queue) { q.Lanes[0].Claims = []int{3, 5, 9} }, false},
		{"a claim behind next", func(q *api.Queue) { q.Lanes[0].Claims = []int{3, 5, 10} }, false},
		{"the first claim is next", func(q *api.Queue) { q.Lanes[0].Claims = []int{9} }, false},
		{"a claim, and next 0", func(q *api.Queue) { q.Lanes[0].Claims, q.Lanes[0].Next = []int{0}, 0 }, false},
		{"the last claim of all", func(q *api.Queue) { q.Lanes[0].Claims, q.Lanes[0].Next = []int{last - 1}, last }, true},
		{"claims as many as are spent", func(q *api.Queue) { q.Lanes[0].Claims = []int{1, 2, 3, 4, 5} }, true},
		{"one claim more than is spent", func(q *api.Queue) { q.Lanes[0].Claims = []int{1, 2, 3, 4, 5, 6} }, false},
		{"a claim, and nothing spent", func(q *api.Queue) { q.Lanes[2].Claims, q.Lanes[2].Next = []int{0}, 1 }, false},
		{"a claim, and one spent", func(q *api.Queue) { q.Lanes[2] = api.PlainLane{Credit: 64, Left: 63, Claims: []int{0}, Next: 1} }, true},
		{"64 claims", func(q *api.Queue) { q.Lanes[2] = full(64, 0) }, true},
		{"65 claims", func(q *api.Queue) { q.Lanes[2] = full(65, 0) }, false},
		{"63 claims and one left", func(q *api.Queue) { q.Lanes[2] = full(63, 1) }, true},
		{"64 claims and one left", func(q *api.Queue) { q.Lanes[2] = full(64, 1) }, false},
		{"very many claims", func(q *api.Queue) { q.Lanes[2] = full(1<<12, 0) }, false},
	}
}

// messageChanges are of messages, and of what is spent for them.
func messageChanges() []change {
	return []change{
		{"claims and messages as many as are spent", func(q *api.Queue) { q.Lanes[0].Left = 4 }, true},
		{"less is spent", func(q *api.Queue) { q.Lanes[0].Left = 5 }, false},
		{"messages as many as are spent", func(q *api.Queue) { q.Lanes[1].Left = 0 }, true},
		{"one message more", func(q *api.Queue) { q.Lanes[1].Left = 1 }, false},
		{"a message more", func(q *api.Queue) { q.Q = append(q.Q, q.Q[1]) }, false},
		{"a message, and nothing spent", func(q *api.Queue) { q.Q = append(q.Q, api.PlainMsg{Lane: 2}) }, false},
		{"the same message twice", func(q *api.Queue) { q.Q = append(q.Q, q.Q[0]) }, true},
		{"a message of any number", func(q *api.Queue) { q.Q[0].N = math.MinInt }, true},
		{"a message of a claim that is open", func(q *api.Queue) { q.Q[0].N = 3 }, true},
		{"a message of any payload", func(q *api.Queue) { q.Q[0].Payload = math.MaxUint64 }, true},
		{"a message of no lane", func(q *api.Queue) { q.Q[0].Lane = 3 }, false},
		{"the last message of no lane", func(q *api.Queue) { q.Q[3].Lane = 3 }, false},
		{"a message of lane -1", func(q *api.Queue) { q.Q[0].Lane = -1 }, false},
		{"a message of the least lane", func(q *api.Queue) { q.Q[0].Lane = math.MinInt }, false},
		{"a message of the greatest lane", func(q *api.Queue) { q.Q[0].Lane = math.MaxInt }, false},
		{"a message without lanes", func(q *api.Queue) { q.Lanes = nil }, false},
		{"a message of the epoch before", func(q *api.Queue) { q.Q[0].Epoch-- }, false},
		{"a message of the next epoch", func(q *api.Queue) { q.Q[3].Epoch++ }, false},
		{"a message of another lane's epoch", func(q *api.Queue) { q.Q[0].Epoch = 1 }, false},
		{"very many messages", func(q *api.Queue) { q.Q = slices.Repeat(q.Q, 1<<10) }, false},
	}
}

// P10.1: Check at each edge of the word 'may be', on either side; and that all other calls ask for it ahead of all else.
func TestCheck(t *testing.T) {
	for _, x := range slices.Concat(laneChanges(), claimChanges(), messageChanges()) {
		q := base()
		x.make(&q)
		if x.may != mayBe(q) {
			t.Fatalf("%s: the plain reading says %v", x.name, mayBe(q))
		}
		want := api.Errno(100)
		if x.may {
			want = 0
		}
		must(t, queue.Check(q), want, x.name)
		for _, kind := range kinds {
			for _, lane := range []int{0, 2, -1, 3} {
				for _, n := range []int{0, 3} {
					tells(t, q, deed{kind: kind, lane: lane, claim: api.Claim{Lane: lane, N: n, Epoch: 4}, msg: api.PlainMsg{Lane: lane, Epoch: 4}})
				}
			}
		}
	}
}

// full is a lane of credit 64 with so many claims.
func full(count, left int) api.PlainLane {
	l := api.PlainLane{Credit: 64, Left: left, Next: count}
	for n := range count {
		l.Claims = append(l.Claims, n)
	}
	return l
}

// P10.1: Same of queues that are unlike in one field alone, which may be or not.
func TestSame(t *testing.T) {
	for name, change := range map[string]func(q *api.Queue){
		"Credit":           func(q *api.Queue) { q.Lanes[1].Credit++ },
		"TwoWay":           func(q *api.Queue) { q.Lanes[2].TwoWay = false },
		"Left":             func(q *api.Queue) { q.Lanes[0].Left = -1 },
		"Next":             func(q *api.Queue) { q.Lanes[0].Next++ },
		"Epoch":            func(q *api.Queue) { q.Lanes[2].Epoch++ },
		"a claim":          func(q *api.Queue) { q.Lanes[0].Claims[1]++ },
		"the last claim":   func(q *api.Queue) { q.Lanes[0].Claims[2]-- },
		"a claim more":     func(q *api.Queue) { q.Lanes[1].Claims = []int{0} },
		"a claim less":     func(q *api.Queue) { q.Lanes[0].Claims = q.Lanes[0].Claims[:2] },
		"no claim":         func(q *api.Queue) { q.Lanes[0].Claims = nil },
		"a lane more":      func(q *api.Queue) { q.Lanes = append(q.Lanes, api.PlainLane{}) },
		"a lane less":      func(q *api.Queue) { q.Lanes = q.Lanes[:2] },
		"no lane":          func(q *api.Queue) { q.Lanes = nil },
		"lanes swapped":    func(q *api.Queue) { q.Lanes[0], q.Lanes[1] = q.Lanes[1], q.Lanes[0] },
		"Lane":             func(q *api.Queue) { q.Q[0].Lane = 1 },
		"a message's":      func(q *api.Queue) { q.Q[1].Epoch = 0 },
		"N":                func(q *api.Queue) { q.Q[2].N = math.MaxInt },
		"Payload":          func(q *api.Queue) { q.Q[3].Payload++ },
		"a message more":   func(q *api.Queue) { q.Q = append(q.Q, api.PlainMsg{}) },
		"a message less":   func(q *api.Queue) { q.Q = q.Q[:3] },
		"no message":       func(q *api.Queue) { q.Q = nil },
		"messages swapped": func(q *api.Queue) { q.Q[0], q.Q[2] = q.Q[2], q.Q[0] },
		"nothing at all":   func(q *api.Queue) { *q = api.Queue{} },
	} {
		a, b, c := base(), base(), base()
		change(&b)
		change(&c)
		if queue.Same(a, b) || queue.Same(b, a) {
			t.Errorf("%s: the same", name)
		}
		if !queue.Same(b, c) || !queue.Same(b, b) {
			t.Errorf("%s: not the same as itself", name)
		}
	}
	if a, b := base(), base(); !queue.Same(a, b) || !queue.Same(a, a) {
		t.Error("not the same as itself")
	}
}

// P10.1, rule 4: nil and empty lists are alike to Same, and to all other calls.
func TestNilAndEmpty(t *testing.T) {
	if !queue.Same(api.Queue{}, api.Queue{Lanes: []api.PlainLane{}, Q: []api.PlainMsg{}}) {
		t.Error("no lanes, no messages")
	}
	a := made(t, []int{2, 2}, []bool{true, false})
	b := kept(a)
	a.Q, b.Q = nil, []api.PlainMsg{}
	a.Lanes[0].Claims, b.Lanes[0].Claims = nil, []int{}
	a.Lanes[1].Claims, b.Lanes[1].Claims = []int{}, nil
	if !queue.Same(a, b) || !queue.Same(b, a) {
		t.Error("no claims, no messages")
	}
	for _, kind := range kinds {
		d := deed{kind: kind, lane: 1, claim: api.Claim{Lane: 1}, msg: api.PlainMsg{Lane: 1, Epoch: 1}}
		if _, got := tells(t, a, d); got != plain(b, d) {
			t.Errorf("%s of nil lists: %v", kind, got)
		}
		if _, got := tells(t, b, d); got != plain(a, d) {
			t.Errorf("%s of empty lists: %v", kind, got)
		}
	}
	_, _, empty := queue.Take(b)
	must(t, empty, 105, "Take")
}

// P10.2: what Claim tells and makes; that credit and numbers end.
func TestClaim(t *testing.T) {
	q := made(t, []int{1, 3}, []bool{false, true})
	for n := range 3 {
		next, got := do(t, q, deed{kind: "Claim", lane: 1})
		if got.claim != (api.Claim{Lane: 1, N: n}) || got.e != api.OK {
			t.Fatalf("claim %d: %+v", n, got)
		}
		l := next.Lanes[1]
		if l.Left != 2-n || l.Next != n+1 || len(l.Claims) != n+1 || l.Claims[n] != n || l.Epoch != 0 || l.Credit != 3 || !l.TwoWay {
			t.Fatalf("claim %d: %+v", n, l)
		}
		is(t, api.Queue{Lanes: next.Lanes[:1]}, api.Queue{Lanes: q.Lanes[:1]}, "the other lane")
		q = next
	}
	refuses(t, q, deed{kind: "Claim", lane: 1}, 101)
	for _, lane := range []int{-1, 2, 3, 16, math.MinInt, math.MaxInt} {
		refuses(t, q, deed{kind: "Claim", lane: lane}, 5)
		refuses(t, api.Queue{}, deed{kind: "Claim", lane: lane}, 5)
	}
	refuses(t, api.Queue{}, deed{kind: "Claim"}, 5)
	q, _ = claims(t, q, 0, 1)
	refuses(t, q, deed{kind: "Claim"}, 101)
}

// P10.2: the last number of a claim; where nothing is left either, that is told first.
func TestLastClaim(t *testing.T) {
	q := api.Queue{Lanes: []api.PlainLane{{Credit: 3, Left: 3, Next: last - 1, Epoch: last}}}
	q, l := claims(t, q, 0, 1)
	if l[0] != (api.Claim{N: last - 1, Epoch: last}) || q.Lanes[0].Next != last {
		t.Errorf("the last claim: %v, %v", l, q)
	}
	refuses(t, q, deed{kind: "Claim"}, 3)
	q, got := tells(t, q, deed{kind: "Publish", claim: l[0], payload: 1})
	must(t, got.e, api.OK, "Publish")
	refuses(t, q, deed{kind: "Claim"}, 3)
	q.Lanes[0].Left = 0
	refuses(t, q, deed{kind: "Claim"}, 101)
	q.Lanes[0].Left, q.Lanes[0].Next = 1, last-2
	claims(t, q, 0, 1)
}

// P10.2: Ready and Publish of claims that are open, of which one alone has its turn, and of such as are not.
func TestPublish(t *testing.T) {
	q := made(t, []int{3, 4, 2}, []bool{true, false, true})
	q, other := claims(t, q, 2, 1)
	q, l := claims(t, q, 1, 4)
	for i, c := range l {
		for k, x := range l {
			d := deed{kind: "Publish", claim: x}
			switch {
			case k < i:
				refuses(t, q, d, 102)
			case k > i:
				refuses(t, q, d, 103)
			}
			if queue.Ready(q, x) != (k == i) {
				t.Errorf("%d are published: Ready(%v) = %v", i, x, k != i)
			}
		}
		for name, x := range map[string]api.Claim{
			"another epoch":    {Lane: 1, N: c.N, Epoch: 1},
			"the epoch before": {Lane: 1, N: c.N, Epoch: -1},
			"never made":       {Lane: 1, N: 4},
			"below 0":          {Lane: 1, N: -1},
			"of another lane":  {Lane: 0, N: c.N},
		} {
			if queue.Ready(q, x) {
				t.Errorf("Ready of one that is %s", name)
			}
			refuses(t, q, deed{kind: "Publish", claim: x, payload: 3}, 102)
		}
		next, got := do(t, q, deed{kind: "Publish", claim: c, payload: uint64(100 + i)})
		must(t, got.e, api.OK, "Publish")
		want := kept(q)
		want.Lanes[1].Claims = want.Lanes[1].Claims[1:]
		want.Q = append(want.Q, api.PlainMsg{Lane: 1, N: i, Payload: uint64(100 + i)})
		is(t, next, want, "Publish")
		q = next
	}
	if !queue.Ready(q, other[0]) || queue.Ready(api.Queue{}, other[0]) {
		t.Error("Ready of another lane's, or of no lane")
	}
	bad := kept(q)
	bad.Lanes[0].Credit = 0
	if queue.Ready(bad, other[0]) {
		t.Error("Ready in a queue that may not be")
	}
}

// P10.2, and the head of the functions: a claim names its lane, so that Publish at a lane that is none tells so, ahead of what it would tell of the claim; Ready is false there.
func TestPublishAtNoLane(t *testing.T) {
	q := made(t, []int{1, 2}, []bool{true, false})
	open, l := claims(t, q, 1, 2)
	for _, x := range []struct {
		q     api.Queue
		lanes []int
	}{
		{api.Queue{}, []int{0, 1, -1, math.MinInt, math.MaxInt}},
		{api.Queue{Lanes: []api.PlainLane{}, Q: []api.PlainMsg{}}, []int{0, -1}},
		{q, []int{-1, 2, 3, 16, math.MinInt, math.MaxInt}},
		{open, []int{-1, 2, 3, 16, math.MinInt, math.MaxInt}},
	} {
		for _, lane := range x.lanes {
			for _, c := range []api.Claim{{}, l[0], l[1], {N: 7, Epoch: 9}, {N: -1, Epoch: -1}} {
				c.Lane = lane
				refuses(t, x.q, deed{kind: "Publish", claim: c, payload: 3}, 5)
				if queue.Ready(x.q, c) {
					t.Errorf("Ready of %v", c)
				}
			}
		}
	}
	refuses(t, q, deed{kind: "Publish", claim: api.Claim{Lane: 0}}, 102)
	refuses(t, q, deed{kind: "Publish", claim: api.Claim{Lane: 1, Epoch: 1}}, 102)
	refuses(t, open, deed{kind: "Publish", claim: l[1]}, 103)
	open.Lanes[0].Credit = 0
	refuses(t, open, deed{kind: "Publish", claim: api.Claim{Lane: 2}}, 100)
}

// P10.2: a message has all that its claim has, at all edges of these.
func TestPublishEdges(t *testing.T) {
	q := api.Queue{Lanes: []api.PlainLane{{Credit: 1, Left: 1}, {Credit: 2, Claims: []int{last - 2, last - 1}, Next: last, Epoch: last}}}
	refuses(t, q, deed{kind: "Publish", claim: api.Claim{Lane: 1, N: last - 1, Epoch: last}}, 103)
	refuses(t, q, deed{kind: "Publish", claim: api.Claim{Lane: 1, N: last, Epoch: last}}, 102)
	next, got := do(t, q, deed{kind: "Publish", claim: api.Claim{Lane: 1, N: last - 2, Epoch: last}, payload: math.MaxUint64})
	must(t, got.e, api.OK, "Publish")
	if m := next.Q[0]; len(next.Q) != 1 || m != (api.PlainMsg{Lane: 1, Epoch: last, N: last - 2, Payload: math.MaxUint64}) {
		t.Errorf("the message: %+v", m)
	}
	if l := next.Lanes[1]; !slices.Equal(l.Claims, []int{last - 1}) || l.Left != 0 || l.Next != last {
		t.Errorf("the lane: %+v", l)
	}
}

// P10.3: Take of nothing, of one, of many: the first one goes, and nothing else.
func TestTake(t *testing.T) {
	refuses(t, api.Queue{}, deed{kind: "Take"}, 105)
	q := made(t, []int{3, 3}, []bool{true, false})
	q, _ = claims(t, q, 0, 1)
	refuses(t, q, deed{kind: "Take"}, 105)
	q = made(t, []int{3, 3}, []bool{true, false})
	q = publishes(t, q, 1, 7, 8)
	q = publishes(t, q, 0, 9)
	q = publishes(t, q, 1, 10)
	for i, want := range []api.PlainMsg{{Lane: 1, N: 0, Payload: 7}, {Lane: 1, N: 1, Payload: 8}, {Lane: 0, N: 0, Payload: 9}, {Lane: 1, N: 2, Payload: 10}} {
		next, got := do(t, q, deed{kind: "Take"})
		if got.msg != want || got.e != api.OK {
			t.Fatalf("Take %d: %+v", i, got)
		}
		is(t, next, api.Queue{Lanes: q.Lanes, Q: q.Q[1:]}, "Take")
		q = next
	}
	refuses(t, q, deed{kind: "Take"}, 105)
}

// P10.3: Retire of a two-way lane gives one credit back for each message that was taken, of a one-way lane none; with nothing taken it is refused.
func TestRetire(t *testing.T) {
	for _, twoway := range []bool{true, false} {
		q := made(t, []int{3, 2}, []bool{twoway, !twoway})
		refuses(t, q, deed{kind: "Retire"}, 102)
		q, _ = claims(t, q, 0, 1)
		refuses(t, q, deed{kind: "Retire"}, 102)
		q, got := tells(t, q, deed{kind: "Publish", payload: 5})
		must(t, got.e, api.OK, "Publish")
		refuses(t, q, deed{kind: "Retire", msg: q.Q[0]}, 102)
		q = publishes(t, q, 0, 6)
		q, l := takes(t, q, 2)
		refuses(t, q, deed{kind: "Retire", msg: api.PlainMsg{Lane: 1}}, 102)
		for i, m := range l {
			next, got := do(t, q, deed{kind: "Retire", msg: m})
			must(t, got.e, api.OK, "Retire")
			want := kept(q)
			if twoway {
				want.Lanes[0].Left++
			}
			is(t, next, want, "Retire")
			if left := next.Lanes[0].Left; twoway && left != 2+i || !twoway && left != 1 {
				t.Errorf("two-way %v: %d is left", twoway, left)
			}
			q = next
		}
		if _, got := do(t, q, deed{kind: "Retire", msg: l[0]}); twoway != (got.e == 102) || !twoway && got.queue != text(q) {
			t.Errorf("two-way %v: Retire once more: %+v", twoway, got)
		}
	}
}

// P10.3: Retire asks of a message its lane and its epoch, and nothing else.
func TestRetireAny(t *testing.T) {
	q := base()
	for _, lane := range []int{-1, 3, 16, math.MinInt, math.MaxInt} {
		for _, epoch := range []int{0, 4, 5} {
			refuses(t, q, deed{kind: "Retire", msg: api.PlainMsg{Lane: lane, Epoch: epoch}}, 5)
		}
		refuses(t, api.Queue{}, deed{kind: "Retire", msg: api.PlainMsg{Lane: lane}}, 5)
	}
	refuses(t, api.Queue{}, deed{kind: "Retire"}, 5)
	for lane, epoch := range []int{4, 1, 0} {
		for _, other := range []int{epoch - 1, epoch + 1, last, last + 1, math.MinInt, math.MaxInt} {
			next, got := do(t, q, deed{kind: "Retire", msg: api.PlainMsg{Lane: lane, Epoch: other}})
			must(t, got.e, api.OK, "Retire of another epoch")
			is(t, next, q, "Retire of another epoch")
		}
	}
	refuses(t, q, deed{kind: "Retire", msg: api.PlainMsg{Lane: 1, Epoch: 1, N: 5, Payload: 12}}, 102)
	refuses(t, q, deed{kind: "Retire", msg: api.PlainMsg{Lane: 2}}, 102)
	for _, n := range []int{0, 1, 3, -1, math.MaxInt} {
		next, got := do(t, q, deed{kind: "Retire", msg: api.PlainMsg{Lane: 0, Epoch: 4, N: n, Payload: 99}})
		must(t, got.e, api.OK, "Retire, one-way")
		is(t, next, q, "Retire, one-way")
		two := base()
		two.Lanes[0].TwoWay = true
		next, got = do(t, two, deed{kind: "Retire", msg: api.PlainMsg{Lane: 0, Epoch: 4, N: n, Payload: 99}})
		must(t, got.e, api.OK, "Retire, two-way")
		two.Lanes[0].Left = 3
		is(t, next, two, "Retire, two-way")
	}
}

// P10.4: Reset lets go what is of the lane, and nothing else; with a claim open, or at the last epoch, it is refused.
func TestReset(t *testing.T) {
	q := base()
	refuses(t, q, deed{kind: "Reset", lane: 0}, 104)
	for _, lane := range []int{-1, 3, 16, math.MinInt, math.MaxInt} {
		refuses(t, q, deed{kind: "Reset", lane: lane}, 5)
	}
	refuses(t, api.Queue{}, deed{kind: "Reset"}, 5)
	next, got := do(t, q, deed{kind: "Reset", lane: 1})
	must(t, got.e, api.OK, "Reset")
	want := base()
	want.Lanes[1].Left, want.Lanes[1].Epoch = 2, 2
	want.Q = []api.PlainMsg{want.Q[0], want.Q[2]}
	is(t, next, want, "Reset of lane 1")
	q.Lanes[0].Claims = nil
	next, got = do(t, q, deed{kind: "Reset", lane: 0})
	must(t, got.e, api.OK, "Reset")
	want = base()
	want.Lanes[0] = api.PlainLane{Credit: 9, Left: 9, Next: 9, Epoch: 5}
	want.Q = []api.PlainMsg{want.Q[1], want.Q[3]}
	is(t, next, want, "Reset of lane 0")
	next, got = do(t, next, deed{kind: "Reset", lane: 2})
	must(t, got.e, api.OK, "Reset")
	want.Lanes[2].Epoch = 1
	is(t, next, want, "Reset of a new lane")
}

// P10.4: the last epoch; where a claim is open too, that is told first.
func TestLastReset(t *testing.T) {
	q := api.Queue{Lanes: []api.PlainLane{{Credit: 2, Left: 1, Epoch: last - 1, Next: 5}}, Q: []api.PlainMsg{{Epoch: last - 1}}}
	q, got := tells(t, q, deed{kind: "Reset"})
	must(t, got.e, api.OK, "Reset")
	if l := q.Lanes[0]; l.Epoch != last || l.Left != 2 || l.Next != 5 || len(q.Q) != 0 {
		t.Errorf("the last reset: %+v", q)
	}
	refuses(t, q, deed{kind: "Reset"}, 3)
	q, l := claims(t, q, 0, 1)
	refuses(t, q, deed{kind: "Reset"}, 104)
	q, got = tells(t, q, deed{kind: "Publish", claim: l[0]})
	must(t, got.e, api.OK, "Publish")
	refuses(t, q, deed{kind: "Reset"}, 3)
}

// P10.4: behind a Reset a claim and a message of the epoch before stand for nothing, though their numbers may not.
func TestBehindReset(t *testing.T) {
	for _, twoway := range []bool{true, false} {
		q := made(t, []int{2}, []bool{twoway})
		q, l := claims(t, q, 0, 1)
		q, got := tells(t, q, deed{kind: "Publish", claim: l[0], payload: 1})
		must(t, got.e, api.OK, "Publish")
		q, m := takes(t, q, 1)
		q, got = tells(t, q, deed{kind: "Reset"})
		must(t, got.e, api.OK, "Reset")
		refuses(t, q, deed{kind: "Publish", claim: l[0]}, 102)
		q, now := claims(t, q, 0, 2)
		if now[0] != (api.Claim{N: 1, Epoch: 1}) || queue.Ready(q, api.Claim{N: 1}) || !queue.Ready(q, now[0]) {
			t.Errorf("claims behind a Reset: %v", now)
		}
		refuses(t, q, deed{kind: "Publish", claim: api.Claim{N: 1}}, 102)
		for _, c := range now {
			q, got = tells(t, q, deed{kind: "Publish", claim: c, payload: 2})
			must(t, got.e, api.OK, "Publish")
		}
		q, _ = takes(t, q, 1)
		next, got := do(t, q, deed{kind: "Retire", msg: m[0]})
		must(t, got.e, api.OK, "Retire of the epoch before")
		is(t, next, q, "Retire of the epoch before")
	}
}
