package lane_test

import (
	"math"
	"slices"
	"testing"

	"rampart/api"
	"rampart/lane"
)

// slot is the name of one that is no other's here.
func slot(n int) api.Slot { return api.Slot{N: n, Gen: uint64(n) + 100} }

// claimed claims so many messages.
func claimed(t testing.TB, l *lane.Lane, n int) []api.Ticket {
	t.Helper()
	var all []api.Ticket
	for range n {
		k, e := l.Claim()
		if e != api.OK {
			t.Fatalf("Claim() = %v, %d", k, e)
		}
		all = append(all, k)
	}
	return all
}

// published claims so many messages, and publishes them, each with the slot and the tick of its number.
func published(t testing.TB, l *lane.Lane, n int) []api.Ticket {
	t.Helper()
	all := claimed(t, l, n)
	for _, k := range all {
		must(t, l.Lay(k, slot(int(int32(k.Seq)))), api.OK, "Lay")
		must(t, l.Publish(k, api.Stamp{Tick: int(int32(k.Seq))}), api.OK, "Publish")
	}
	return all
}

// taken claims, publishes and takes so many messages.
func taken(t testing.TB, l *lane.Lane, n int) []api.Ticket {
	t.Helper()
	all := published(t, l, n)
	for _, k := range all {
		takes(t, l, k, slot(int(int32(k.Seq))))
	}
	return all
}

// takes takes a message.
func takes(t testing.TB, l *lane.Lane, k api.Ticket, s api.Slot) {
	t.Helper()
	if gotSlot, got, e := l.Take(); gotSlot != s || got != k || e != api.OK {
		t.Fatalf("Take() = %v, %v, %d, want %v, %v", gotSlot, got, e, s, k)
	}
}

// must holds an error against what it must be.
func must(t testing.TB, got, want api.Errno, what string) {
	t.Helper()
	if got != want {
		t.Fatalf("%s: %d, want %d", what, got, want)
	}
}

// retires is what a Retire must tell.
func retires(t testing.TB, l *lane.Lane, k api.Ticket, s api.Slot, back bool, e api.Errno) {
	t.Helper()
	if gotSlot, gotBack, gotE := l.Retire(k); gotSlot != s || gotBack != back || gotE != e {
		t.Fatalf("Retire(%v) = %v, %v, %d, want %v, %v, %d", k, gotSlot, gotBack, gotE, s, back, e)
	}
}

// resets is what a Reset must tell.
func resets(t testing.TB, l *lane.Lane, want ...api.Slot) {
	t.Helper()
	if got, e := l.Reset(); !slices.Equal(got, want) || e != api.OK {
		t.Fatalf("Reset() = %v, %d, want %v", got, e, want)
	}
}

// stands holds a lane's State against what it must be.
func stands(t testing.TB, l *lane.Lane, want api.LaneState) {
	t.Helper()
	if got := l.State(); got != want {
		t.Fatalf("State() = %+v, want %+v", got, want)
	}
}

// The chapter's example.
func TestExample(t *testing.T) {
	l := made(t, 2, true, full)
	k := claimed(t, l, 2)
	if k[0] != (api.Ticket{Seq: full}) || k[1] != (api.Ticket{}) {
		t.Fatalf("claimed: %v", k)
	}
	must(t, l.Lay(k[1], slot(1)), api.OK, "Lay")
	must(t, l.Publish(k[1], api.Stamp{}), api.ErrWait, "Publish")
}

// P8.1: credits from 1 to 64, and no other.
func TestNew(t *testing.T) {
	for _, credit := range []int{-1, 0, 65, 66, -64, 128, math.MinInt, math.MaxInt, 1 << 32, 1<<32 + 1} {
		for _, twoway := range []bool{false, true} {
			if l, e := lane.New(credit, twoway, 7); l != nil || e != 80 {
				t.Errorf("New(%d, %v, 7) = %v, %d", credit, twoway, l, e)
			}
		}
	}
	for credit := 1; credit <= 64; credit++ {
		for _, twoway := range []bool{false, true} {
			for _, start := range []uint64{0, 1, full, full - 1, full - 40, 1 << 63, 1<<32 - 1} {
				l := made(t, credit, twoway, start)
				stands(t, l, api.LaneState{Left: credit})
				for i, k := range claimed(t, l, credit) {
					if k != (api.Ticket{Seq: start + uint64(i)}) {
						t.Errorf("New(%d, %v, %d): claim %d is %v", credit, twoway, start, i, k)
					}
				}
				stands(t, l, api.LaneState{Claimed: credit})
				if k, e := l.Claim(); k != (api.Ticket{}) || e != 81 {
					t.Errorf("New(%d, %v, %d): one claim more: %v, %d", credit, twoway, start, k, e)
				}
				stands(t, l, api.LaneState{Claimed: credit})
			}
		}
	}
}

// P8.1, P8.3: a claim when no credit is left, and again when some came back, in whatever order; numbers go on.
func TestClaimAgain(t *testing.T) {
	l := made(t, 3, true, full-1)
	k := taken(t, l, 3)
	for i, at := range []int{2, 0, 1} {
		if _, e := l.Claim(); e != 81 {
			t.Fatalf("Claim() = %d", e)
		}
		retires(t, l, k[at], slot(int(int32(k[at].Seq))), true, api.OK)
		if got := claimed(t, l, 1)[0]; got != (api.Ticket{Seq: uint64(1 + i)}) {
			t.Errorf("claimed: %v", got)
		}
	}
	stands(t, l, api.LaneState{Claimed: 3})
}

// P8.2: Lay twice, of a published, a taken and a retired one, of an elder epoch, of numbers that were never claimed.
func TestLay(t *testing.T) {
	for _, twoway := range []bool{false, true} {
		l := made(t, 5, twoway, full-1)
		k := claimed(t, l, 2)
		must(t, l.Lay(k[0], slot(1)), api.OK, "Lay")
		must(t, l.Lay(k[0], slot(2)), api.OK, "Lay again")
		must(t, l.Lay(k[1], slot(3)), api.OK, "Lay of the second")
		must(t, l.Publish(k[0], api.Stamp{}), api.OK, "Publish")
		must(t, l.Lay(k[0], slot(4)), api.ErrTicket, "Lay of a published one")
		takes(t, l, k[0], slot(2))
		must(t, l.Lay(k[0], slot(5)), api.ErrTicket, "Lay of a taken one")
		l.Retire(k[0])
		must(t, l.Lay(k[0], slot(6)), api.ErrTicket, "Lay of a retired one")
		for _, seq := range []uint64{1, 2, full - 2, k[0].Seq + 64, 1 << 63, k[1].Seq - 64, k[1].Seq + 64} {
			must(t, l.Lay(api.Ticket{Seq: seq}, slot(7)), api.ErrTicket, "Lay of none")
		}
		for _, epoch := range []uint64{1, 2, full} {
			must(t, l.Lay(api.Ticket{Seq: k[1].Seq, Epoch: epoch}, slot(8)), api.ErrTicket, "Lay of another epoch")
		}
		must(t, l.Publish(k[1], api.Stamp{}), api.OK, "Publish")
		takes(t, l, k[1], slot(3))
	}
}

// P8.2: a slot is a name, any, the zero one too.
func TestAnySlot(t *testing.T) {
	for _, s := range []api.Slot{{}, {N: -1}, {N: math.MinInt, Gen: full}, {N: math.MaxInt}} {
		l := made(t, 1, false, 3)
		k := claimed(t, l, 1)[0]
		if l.Ready(k) {
			t.Errorf("%v is ready without a slot", k)
		}
		must(t, l.Lay(k, s), api.OK, "Lay")
		if !l.Ready(k) {
			t.Errorf("%v is not ready with slot %v", k, s)
		}
		at := api.Stamp{Tick: math.MinInt, Step: math.MaxInt}
		must(t, l.Publish(k, at), api.OK, "Publish")
		if got, _, _ := l.First(); got != at {
			t.Errorf("First() = %v, want %v", got, at)
		}
		takes(t, l, k, s)
		resets(t, l, s)
	}
}

// P8.2: Publish without a slot, out of the order of claims, twice, of a taken and of a retired one, of no message, of another epoch.
func TestPublish(t *testing.T) {
	for _, twoway := range []bool{false, true} {
		l := made(t, 8, twoway, full-1)
		k := claimed(t, l, 3)
		must(t, l.Publish(k[0], api.Stamp{}), api.ErrTicket, "Publish without a slot")
		must(t, l.Publish(k[2], api.Stamp{}), api.ErrTicket, "Publish without a slot, out of order")
		must(t, l.Lay(k[2], slot(2)), api.OK, "Lay")
		must(t, l.Lay(k[1], slot(1)), api.OK, "Lay")
		must(t, l.Publish(k[2], api.Stamp{}), api.ErrWait, "Publish ahead of two")
		must(t, l.Lay(k[0], slot(0)), api.OK, "Lay")
		must(t, l.Publish(k[2], api.Stamp{}), api.ErrWait, "Publish ahead of two")
		must(t, l.Publish(k[1], api.Stamp{}), api.ErrWait, "Publish ahead of one")
		must(t, l.Publish(k[0], api.Stamp{Tick: 9}), api.OK, "Publish")
		must(t, l.Publish(k[0], api.Stamp{Tick: 8}), api.ErrTicket, "Publish twice")
		must(t, l.Publish(k[2], api.Stamp{}), api.ErrWait, "Publish ahead of one")
		must(t, l.Publish(k[1], api.Stamp{Tick: 1}), api.OK, "Publish")
		if at, first, ok := l.First(); at != (api.Stamp{Tick: 9}) || first != k[0] || !ok {
			t.Errorf("First() = %v, %v, %v", at, first, ok)
		}
		takes(t, l, k[0], slot(0))
		must(t, l.Publish(k[0], api.Stamp{}), api.ErrTicket, "Publish of a taken one")
		l.Retire(k[0])
		must(t, l.Publish(k[0], api.Stamp{}), api.ErrTicket, "Publish of a retired one")
		must(t, l.Publish(api.Ticket{Seq: k[2].Seq, Epoch: 1}, api.Stamp{}), api.ErrTicket, "Publish of another epoch")
		must(t, l.Publish(api.Ticket{Seq: k[2].Seq + 1}, api.Stamp{}), api.ErrTicket, "Publish of none")
		must(t, l.Publish(k[2], api.Stamp{}), api.OK, "Publish")
	}
}

// P8.2: a message is ready just if it is claimed, has a slot, and all ahead of it are published, or further.
func TestReady(t *testing.T) {
	l := made(t, 3, true, full)
	k := claimed(t, l, 3)
	ready := func(what string, want ...bool) {
		t.Helper()
		for i, x := range k {
			if l.Ready(x) != want[i] {
				t.Errorf("%s: Ready(%v) = %v", what, x, !want[i])
			}
			if other := (api.Ticket{Seq: x.Seq, Epoch: x.Epoch + 1}); l.Ready(other) {
				t.Errorf("%s: Ready(%v) = true", what, other)
			}
		}
	}
	ready("claimed", false, false, false)
	must(t, l.Lay(k[1], slot(1)), api.OK, "Lay")
	ready("the second is laid", false, false, false)
	must(t, l.Lay(k[0], slot(0)), api.OK, "Lay")
	ready("two are laid", true, false, false)
	must(t, l.Publish(k[0], api.Stamp{}), api.OK, "Publish")
	ready("the first is published", false, true, false)
	takes(t, l, k[0], slot(0))
	ready("the first is taken", false, true, false)
	retires(t, l, k[0], slot(0), true, api.OK)
	ready("the first is gone", false, true, false)
	must(t, l.Publish(k[1], api.Stamp{}), api.OK, "Publish")
	ready("the second is published", false, false, false)
	must(t, l.Lay(k[2], slot(2)), api.OK, "Lay")
	ready("the third is laid", false, false, true)
}

// P8.3: First and Take when none is published, when an earlier one is claimed only, and one after another.
func TestFirstAndTake(t *testing.T) {
	none := func(l *lane.Lane, what string) {
		t.Helper()
		if at, k, ok := l.First(); at != (api.Stamp{}) || k != (api.Ticket{}) || ok {
			t.Errorf("%s: First() = %v, %v, %v", what, at, k, ok)
		}
		if s, k, e := l.Take(); s != (api.Slot{}) || k != (api.Ticket{}) || e != 82 {
			t.Errorf("%s: Take() = %v, %v, %d", what, s, k, e)
		}
	}
	l := made(t, 4, true, full-1)
	none(l, "new")
	k := claimed(t, l, 2)
	none(l, "claimed")
	must(t, l.Lay(k[1], slot(1)), api.OK, "Lay")
	must(t, l.Publish(k[1], api.Stamp{}), api.ErrWait, "Publish")
	none(l, "the second waits")
	must(t, l.Lay(k[0], slot(0)), api.OK, "Lay")
	none(l, "laid")
	must(t, l.Publish(k[0], api.Stamp{Tick: 5, Step: 1}), api.OK, "Publish")
	must(t, l.Publish(k[1], api.Stamp{Tick: 4}), api.OK, "Publish")
	for i, at := range []api.Stamp{{Tick: 5, Step: 1}, {Tick: 4}} {
		for range 2 {
			if got, first, ok := l.First(); got != at || first != k[i] || !ok {
				t.Errorf("First() = %v, %v, %v, want %v, %v", got, first, ok, at, k[i])
			}
		}
		takes(t, l, k[i], slot(i))
	}
	none(l, "all are taken")
	published(t, l, 1)
	resets(t, l, slot(0), slot(1), slot(0))
	none(l, "reset")
}

// P8.3: Retire of one that is not taken, twice, of an elder epoch, of a number never claimed, of a two-way and of a one-way lane.
func TestRetire(t *testing.T) {
	for _, twoway := range []bool{false, true} {
		l := made(t, 3, twoway, full)
		none := api.Slot{}
		k := claimed(t, l, 1)[0]
		retires(t, l, k, none, false, api.ErrTicket)
		must(t, l.Lay(k, slot(3)), api.OK, "Lay")
		retires(t, l, k, none, false, api.ErrTicket)
		must(t, l.Publish(k, api.Stamp{}), api.OK, "Publish")
		retires(t, l, k, none, false, api.ErrTicket)
		takes(t, l, k, slot(3))
		for _, epoch := range []uint64{1, full} {
			retires(t, l, api.Ticket{Seq: k.Seq, Epoch: epoch}, none, false, api.OK)
		}
		stands(t, l, api.LaneState{Left: 2, Taken: 1})
		if twoway {
			retires(t, l, k, slot(3), true, api.OK)
			stands(t, l, api.LaneState{Left: 3})
		} else {
			retires(t, l, k, none, false, api.OK)
			stands(t, l, api.LaneState{Left: 2, Held: 1})
		}
		before := l.State()
		retires(t, l, k, none, false, api.ErrTicket)
		retires(t, l, api.Ticket{Seq: 0}, none, false, api.ErrTicket)
		retires(t, l, api.Ticket{Seq: full - 1}, none, false, api.ErrTicket)
		retires(t, l, api.Ticket{Seq: 63}, none, false, api.ErrTicket)
		stands(t, l, before)
		x := taken(t, l, 1)[0]
		if _, e := l.Reset(); e != api.OK {
			t.Fatal(e)
		}
		for _, old := range []api.Ticket{k, x, {Seq: 77}} {
			retires(t, l, old, none, false, api.OK)
		}
		stands(t, l, api.LaneState{Left: 3, Epoch: 1})
	}
}

// P8.3, P8.4: messages that were taken stay retirable while others go by, over more numbers than the ring has places.
func TestRetireLate(t *testing.T) {
	l := made(t, 3, true, full-100)
	late := taken(t, l, 2)
	for range 300 {
		k := taken(t, l, 1)[0]
		retires(t, l, k, slot(int(int32(k.Seq))), true, api.OK)
	}
	stands(t, l, api.LaneState{Left: 1, Taken: 2})
	retires(t, l, late[1], slot(-100), true, api.OK)
	p := published(t, l, 2)
	resets(t, l, slot(-101), slot(int(p[0].Seq)), slot(int(p[1].Seq)))
	stands(t, l, api.LaneState{Left: 3, Epoch: 1})
}

// P8.4: Reset with a claimed message, laid or not, ahead of others or behind them, changes nothing.
func TestResetClaimed(t *testing.T) {
	for _, twoway := range []bool{false, true} {
		for _, with := range []bool{false, true} {
			l := made(t, 6, twoway, full)
			taken(t, l, 1)
			k := published(t, l, 1)[0]
			x := claimed(t, l, 1)[0]
			if with {
				must(t, l.Lay(x, slot(9)), api.OK, "Lay")
			}
			for range 3 {
				if s, e := l.Reset(); len(s) != 0 || e != 84 {
					t.Fatalf("Reset() = %v, %d", s, e)
				}
				stands(t, l, api.LaneState{Left: 3, Claimed: 1, Published: 1, Taken: 1})
			}
			takes(t, l, k, slot(0))
			must(t, l.Lay(x, slot(8)), api.OK, "Lay")
			must(t, l.Publish(x, api.Stamp{}), api.OK, "Publish")
			resets(t, l, slot(-1), slot(0), slot(8))
		}
	}
}

// P8.4: Reset with published, taken and held ones tells them by their numbers, whatever order they were retired in, over the wrap.
func TestResetSlots(t *testing.T) {
	for _, start := range []uint64{0, 5, full, full - 2, full - 3, full - 60, 1<<63 - 3} {
		l := made(t, 8, false, start)
		k := taken(t, l, 5)
		for _, i := range []int{4, 1, 2} {
			retires(t, l, k[i], api.Slot{}, false, api.OK)
		}
		k = append(k, published(t, l, 2)...)
		stands(t, l, api.LaneState{Left: 1, Published: 2, Taken: 2, Held: 3})
		var want []api.Slot
		for _, x := range k {
			want = append(want, slot(int(int32(x.Seq))))
		}
		resets(t, l, want...)
		stands(t, l, api.LaneState{Left: 8, Epoch: 1})
		for _, x := range k {
			retires(t, l, x, api.Slot{}, false, api.OK)
			must(t, l.Lay(x, slot(1)), api.ErrTicket, "Lay of an elder epoch")
			must(t, l.Publish(x, api.Stamp{}), api.ErrTicket, "Publish of an elder epoch")
		}
		if x := claimed(t, l, 1)[0]; x != (api.Ticket{Seq: start + 7, Epoch: 1}) {
			t.Errorf("from %d on: claimed behind a reset: %v", start, x)
		}
	}
}

// P8.4: Reset of an empty lane, again and again, and of a full one each time.
func TestResetAgain(t *testing.T) {
	for _, twoway := range []bool{false, true} {
		l := made(t, 64, twoway, full-70)
		for epoch := range uint64(6) {
			stands(t, l, api.LaneState{Left: 64, Epoch: epoch})
			resets(t, l)
		}
		for epoch := uint64(6); epoch < 12; epoch++ {
			k := published(t, l, 64)
			if k[0] != (api.Ticket{Seq: full - 70 + (epoch-6)*64, Epoch: epoch}) {
				t.Fatalf("claimed first: %v", k[0])
			}
			stands(t, l, api.LaneState{Published: 64, Epoch: epoch})
			var want []api.Slot
			for _, x := range k {
				want = append(want, slot(int(int32(x.Seq))))
			}
			resets(t, l, want...)
		}
		stands(t, l, api.LaneState{Left: 64, Epoch: 12})
	}
}

// P8.4: a message's slot does not outlive a reset, or a turn of the ring: what is claimed in its place has none.
func TestNoSlotIsLeft(t *testing.T) {
	l := made(t, 64, true, 0)
	for range 3 {
		published(t, l, 64)
		if _, e := l.Reset(); e != api.OK {
			t.Fatal(e)
		}
		for _, k := range claimed(t, l, 64) {
			must(t, l.Publish(k, api.Stamp{}), api.ErrTicket, "Publish without a slot")
			must(t, l.Lay(k, slot(int(k.Seq))), api.OK, "Lay")
			must(t, l.Publish(k, api.Stamp{}), api.OK, "Publish")
			takes(t, l, k, slot(int(k.Seq)))
			retires(t, l, k, slot(int(k.Seq)), true, api.OK)
		}
	}
}
