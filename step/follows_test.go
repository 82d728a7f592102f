package step_test

import (
	"testing"

	"rampart/api"
	"rampart/step"
)

// P17.5: whatever the world tells, and however it changes that: an operation is over behind as many Do as Left told, at most, and each asks for one thing beside Ready.
func TestFew(t *testing.T) {
	d := dice(5)
	most := map[int]int{}
	for range 20000 {
		w := &world{tale: d.tale(), change: d.tale}
		o := fresh(t, 1+d.to(9), requests[d.to(len(requests))])
		left, done := step.Left(o), 0
		for over := false; !over; {
			before, readies := w.did(), len(w.asks)-w.did()
			publish := o.Next == api.MPublish
			got := do(w, o, d.stamp())
			if n := len(w.asks) - w.did() - readies; publish && n != 1 || !publish && n != 0 {
				t.Fatalf("%+v: Ready was asked %d times", o, n)
			}
			if got.e == api.ErrBlocked { // it is not done, and asked for nothing
				if w.did() != before || !publish {
					t.Fatalf("%+v is blocked, and asks %+v", o, w.asks)
				}
				continue
			}
			done++
			if got.e != api.OK || w.did() != before+1 {
				t.Fatalf("%+v: %+v, asked %+v", o, got, w.asks)
			}
			if n := step.Left(got.op); got.over != (n == 0) || n >= step.Left(o) {
				t.Fatalf("%+v: %d are left behind it", o, n)
			}
			o, over = got.op, got.over
		}
		if done > left {
			t.Fatalf("%+v: over behind %d, and %d were left", o, done, left)
		}
		most[done]++
		if got := do(w, o, when); got != (told{e: api.ErrOver}) {
			t.Fatalf("%+v: Do of what is over: %+v", o, got)
		}
	}
	for n := 1; n <= 3; n++ {
		if most[n] < 100 {
			t.Errorf("over behind %d: no more than %d", n, most[n])
		}
	}
}

// P17.5: Finish comes to what as many Do do, in a world that changes what it tells.
func TestFinishIsDo(t *testing.T) {
	d := dice(6)
	ends := map[bool]int{}
	for range 20000 {
		seed := d
		o := d.op()
		at := d.stamp()
		begin := d.tale()
		one, two := d, d // the same tales in both
		w := &world{tale: begin, change: one.tale}
		v := &world{tale: begin, change: two.tale}
		got := finish(w, o, at)
		want := told{op: o}
		for n := step.Left(o); ; n-- {
			x := do(v, want.op, at)
			if x.e == api.ErrBlocked {
				break
			}
			if x.e != api.OK {
				want.e = x.e
				break
			}
			want = x
			if x.over {
				break
			}
		}
		if got != want || len(w.asks) != len(v.asks) {
			t.Fatalf("seed %d: Finish of %+v = %+v, want %+v", seed, o, got, want)
		}
		ends[got.over]++
		if got.e == api.OK && !got.over && (got.op.Next != api.MPublish || got.reply != (api.Reply{})) {
			t.Fatalf("%+v stands at %+v", o, got)
		}
	}
	if ends[false] < 100 || ends[true] < 100 {
		t.Errorf("ends %v", ends)
	}
}

// P17.6: a world that tells an operation with another Number and another Req: neither changes, nor does what is over go on.
func TestAsItIs(t *testing.T) {
	for _, r := range requests {
		for _, number := range []int{1, 2, 1 << 40} {
			for _, found := range []api.Op{otherOp, {}, {Number: number + 1, Req: requests[0], Next: api.MOnce}, {Number: number, Req: r, Next: api.MOver}, {Number: -1, Req: malformed[3], Next: api.MClaim}} {
				w := &world{tale: tale{found: found, code: api.COK, ready: true}}
				o := fresh(t, number, r)
				for range len(rows[r.Kind]) {
					got := do(w, o, when)
					if got.e != api.OK || got.op.Number != number || got.op.Req != r {
						t.Fatalf("found %+v: Do of %+v = %+v", found, o, got)
					}
					o = got.op
				}
				if o.Next != api.MOver {
					t.Errorf("%+v is not over", o)
				}
				if got := finish(w, fresh(t, number, r), when); got.op != o || got.op.Number != number || got.op.Req != r {
					t.Errorf("found %+v: Finish = %+v", found, got)
				}
			}
		}
	}
}

// P17.6: of any operation, in any world, Do and Finish change neither, and what is over has all else as it was.
func TestAsItIsAnywhere(t *testing.T) {
	d := dice(7)
	for range 20000 {
		o, x := d.op(), d.tale()
		got := does(t, x, o, d.stamp())
		if got.e == api.OK && (got.op.Number != o.Number || got.op.Req != o.Req) {
			t.Fatalf("%+v: %+v", o, got)
		}
		if got.over {
			behind := o
			behind.Next = api.MOver
			if got.op != behind {
				t.Fatalf("%+v is over as %+v", o, got.op)
			}
		}
		if got := finishes(t, x, o, d.stamp()); got.op.Number != o.Number || got.op.Req != o.Req {
			t.Fatalf("%+v: %+v", o, got)
		}
	}
}
