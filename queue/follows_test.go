package queue_test

import (
	"slices"
	"testing"

	"rampart/api"
	"rampart/queue"
)

// new is a queue that New made, with lanes of credits by chance.
func (d *dice) new(t testing.TB, lanes, credit int) api.Queue {
	t.Helper()
	credits, twoway := d.lanes(lanes, credit)
	return made(t, credits, twoway)
}

// walk does so many deeds to a queue, none of one kind, and hands each to look, with what it told and the queue that comes of it.
func walk(d *dice, q api.Queue, count int, without string, look func(x deed, got told, next api.Queue)) {
	msgs := slices.Clone(q.Q)
	for range count {
		x := d.deed(q, msgs)
		if x.kind == without {
			continue
		}
		next, got := call(q, x)
		if x.kind == "Take" && got.e == api.OK {
			msgs = append(msgs[max(0, len(msgs)-6):], got.msg)
		}
		if got.e == api.OK && x.kind != "Ready" && x.kind != "Check" {
			q = next
		}
		look(x, got, q)
	}
}

// P10.5: what is taken is a beginning of what was published, in order, where nothing is reset.
func TestFirstInFirstOut(t *testing.T) {
	d := dice(105)
	for round := range 80 {
		var published []api.PlainMsg
		count := 0
		walk(&d, d.new(t, 1+round%16, 1+round%64), 800, "Reset", func(x deed, got told, next api.Queue) {
			switch {
			case got.e != api.OK:
			case x.kind == "Publish":
				published = append(published, api.PlainMsg{Lane: x.claim.Lane, Epoch: x.claim.Epoch, N: x.claim.N, Payload: x.payload})
			case x.kind == "Take":
				if count >= len(published) || got.msg != published[count] {
					t.Fatalf("taken as number %d: %v of %v", count, got.msg, published)
				}
				count++
			}
			if !slices.Equal(next.Q, published[count:]) {
				t.Fatalf("%v are published, %d of them taken, and there are %v", published, count, next.Q)
			}
		})
		if count < 1 {
			t.Errorf("round %d: nothing is taken", round)
		}
	}
}

// P10.5, across a Reset: what it drops is never taken, and all else comes in order.
func TestInOrderAcrossResets(t *testing.T) {
	d := dice(1055)
	drops := 0
	for round := range 60 {
		var waiting []api.PlainMsg
		walk(&d, d.new(t, 1+round%5, 1+round%20), 600, "", func(x deed, got told, next api.Queue) {
			switch {
			case got.e != api.OK:
			case x.kind == "Publish":
				waiting = append(waiting, api.PlainMsg{Lane: x.claim.Lane, Epoch: x.claim.Epoch, N: x.claim.N, Payload: x.payload})
			case x.kind == "Reset":
				before := len(waiting)
				waiting = slices.DeleteFunc(waiting, func(m api.PlainMsg) bool { return m.Lane == x.lane })
				drops += before - len(waiting)
			case x.kind == "Take":
				if len(waiting) == 0 || got.msg != waiting[0] {
					t.Fatalf("taken: %v of %v", got.msg, waiting)
				}
				waiting = waiting[1:]
			}
		})
	}
	if drops < 300 {
		t.Errorf("no more than %d are dropped", drops)
	}
}

// P10.6: from a new queue on what is told may be, and a lane's messages are never more than its credit; nor are its claims, messages and what is taken together.
func TestBounded(t *testing.T) {
	d := dice(106)
	for round := range 60 {
		q := d.new(t, round%17, 1+round)
		if round == 0 {
			q = made(t, slices.Repeat([]int{64}, 16), make([]bool, 16))
		}
		walk(&d, q, 500, "", func(x deed, got told, next api.Queue) {
			if e := queue.Check(next); e != api.OK || !mayBe(next) {
				t.Fatalf("behind %v: %d of\n%s", x, e, text(next))
			}
			count := make([]int, len(next.Lanes))
			for _, m := range next.Q {
				count[m.Lane]++
			}
			for i, l := range next.Lanes {
				if count[i] > l.Credit || l.Left+len(l.Claims)+count[i] > l.Credit || l.Credit != q.Lanes[i].Credit || l.TwoWay != q.Lanes[i].TwoWay {
					t.Fatalf("behind %v: %d messages of %+v", x, count[i], l)
				}
			}
		})
	}
}

// P10.6: a lane of each credit takes just so many claims, and so many messages, and then no more.
func TestFull(t *testing.T) {
	for credit := 1; credit <= 64; credit++ {
		q := made(t, []int{64, credit}, []bool{true, false})
		for n := range credit {
			next, c, e := queue.Claim(q, 1)
			if c.N != n || e != api.OK {
				t.Fatalf("credit %d: claim %v, %d", credit, c, e)
			}
			if next, e = queue.Publish(next, c, uint64(n)); e != api.OK {
				t.Fatalf("credit %d: Publish %d", credit, e)
			}
			q = next
		}
		refuses(t, q, deed{kind: "Claim", lane: 1}, 101)
		if len(q.Q) != credit || q.Lanes[1].Left != 0 {
			t.Fatalf("credit %d: %v", credit, q)
		}
	}
}

// of tells whether a deed that told that is one of a lane's.
func (x deed) of(lane int, got told) bool {
	switch x.kind {
	case "Claim", "Reset":
		return x.lane == lane
	case "Publish", "Ready":
		return x.claim.Lane == lane
	case "Take":
		return got.e == api.OK && got.msg.Lane == lane
	case "Retire":
		return x.msg.Lane == lane
	}
	return false
}

// P10.7: what Claim, Ready, Publish and Reset of a lane tell, but the row of messages, hangs on no call of another lane, and of a one-way lane on no Take and Retire.
func TestLanesApart(t *testing.T) {
	d := dice(107)
	for round := range 150 {
		q := d.new(t, 2+round%4, 1+round%7)
		lane := d.to(len(q.Lanes))
		apart, hits := q, 0
		walk(&d, q, 300, "", func(x deed, got told, next api.Queue) {
			looks := slices.Contains([]string{"Claim", "Ready", "Publish", "Reset"}, x.kind)
			if !x.of(lane, got) || !looks && !q.Lanes[lane].TwoWay {
				return
			}
			p, want := call(apart, x)
			if looks && (got.claim != want.claim || got.ok != want.ok || got.e != want.e) {
				t.Fatalf("%v: %+v, apart %+v", x, got, want)
			}
			if want.e == api.OK && x.kind != "Ready" {
				apart = p
			}
			if !looks {
				return
			}
			if a, b := text(api.Queue{Lanes: next.Lanes[lane : lane+1]}), text(api.Queue{Lanes: apart.Lanes[lane : lane+1]}); a != b {
				t.Fatalf("%v: %s, apart %s", x, a, b)
			}
			hits++
		})
		if hits < 10 {
			t.Errorf("round %d: no more than %d deeds of lane %d", round, hits, lane)
		}
	}
}

// P10.7: a one-way lane is full till it is reset, whatever is taken and retired.
func TestOneWayFull(t *testing.T) {
	for _, credit := range []int{1, 2, 63, 64} {
		q := made(t, []int{5, credit}, []bool{true, false})
		for epoch := range 3 {
			for range credit {
				next, m := takes(t, publishes(t, q, 1, 4), 1)
				next, got := tells(t, next, deed{kind: "Retire", msg: m[0]})
				must(t, got.e, api.OK, "Retire")
				q = next
			}
			refuses(t, q, deed{kind: "Claim", lane: 1}, 101)
			next, got := tells(t, q, deed{kind: "Reset", lane: 1})
			must(t, got.e, api.OK, "Reset")
			if l := next.Lanes[1]; l.Left != credit || l.Epoch != epoch+1 || l.Next != credit*(epoch+1) {
				t.Fatalf("credit %d: %+v", credit, l)
			}
			q = next
		}
	}
}
