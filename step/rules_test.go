package step_test

import (
	"math"
	"slices"
	"sync"
	"testing"

	"rampart/api"
	"rampart/step"
)

// Rules 1 and 2: any operation in any world, and in none.
func TestAnything(t *testing.T) {
	d := dice(1)
	answers := map[api.Errno]int{}
	for range 30000 {
		o, x, at := d.op(), d.tale(), d.stamp()
		right(t, x, o, at)
		got, _ := plainDo(x, o, at)
		answers[got.e]++
		if got.over {
			answers[1]++
		}
		o, x = api.Op{Number: d.edge(), Req: d.request(), Next: api.MStep(d.edge()), Channel: d.edge(), Lane: d.edge()}, d.tale()
		right(t, x, o, at)
	}
	for _, e := range []api.Errno{0, 1, 170, 171} {
		if answers[e] < 200 {
			t.Errorf("%d: no more than %d", e, answers[e])
		}
	}
}

// Rules 1 and 2: New of any number and any request: with an error it is zero, else it may be, and is not over.
func TestNewAnything(t *testing.T) {
	d := dice(2)
	answers := map[api.Errno]int{}
	for range 30000 {
		number, r := d.to(6)-1, d.request()
		if d.to(3) == 0 {
			number = d.edge()
		}
		o, e := step.New(number, r)
		answers[e]++
		if e != api.OK && o != (api.Op{}) {
			t.Fatalf("New(%d, %+v) = %+v, %d", number, r, o, e)
		}
		if e == api.OK && (step.Left(o) != len(step.Steps(r.Kind)) || step.Left(o) == 0 || o.Next != step.Steps(r.Kind)[0]) {
			t.Fatalf("New(%d, %+v) = %+v", number, r, o)
		}
	}
	for _, e := range []api.Errno{0, 1, 30} {
		if answers[e] < 1000 {
			t.Errorf("%d: no more than %d", e, answers[e])
		}
	}
}

// Rule 2: what is refused changes nothing, and asks for nothing beside Ready: what comes next is as if it had not been.
func TestRefused(t *testing.T) {
	d := dice(3)
	for range 20000 {
		w := &world{tale: tale{found: otherOp, code: api.COK}}
		o := d.op()
		kept := o
		got := do(w, o, when)
		if o != kept {
			t.Fatalf("%+v was %+v", o, kept)
		}
		if got.e == api.OK {
			continue
		}
		if w.did() != 0 || got != (told{e: got.e}) {
			t.Fatalf("%+v: %+v, asked %+v", o, got, w.asks)
		}
		w.ready = true
		again := do(w, o, when)
		if blocked := got.e == api.ErrBlocked; blocked != again.over || !blocked && again != got {
			t.Fatalf("%+v: %+v, then %+v", o, got, again)
		}
	}
}

// Rule 3: the world nil, whatever the operation: which error comes first.
func TestNoWorld(t *testing.T) {
	for _, r := range slices.Concat(requests, malformed) {
		for _, next := range steps {
			for _, number := range edges {
				o := someOp(number, r, next)
				if got := do(nil, o, when); got != (told{e: 4}) {
					t.Fatalf("Do of %+v: %+v", o, got)
				}
				if got := finish(nil, o, when); got != (told{op: o, e: 4}) {
					t.Fatalf("Finish of %+v: %+v", o, got)
				}
			}
		}
	}
}

// Rule 4: what Steps tells is new memory, up to its capacity.
func TestNewMemory(t *testing.T) {
	for k := range 12 {
		kind := api.ReqKind(k)
		one, two := step.Steps(kind), step.Steps(kind)
		for i := range one[:cap(one)] {
			one[:cap(one)][i] = 99
		}
		_ = append(one, 98)
		if !slices.Equal(two, rows[kind]) || !slices.Equal(step.Steps(kind), rows[kind]) {
			t.Errorf("kind %d: %v, %v", k, two, step.Steps(kind))
		}
	}
	o := fresh(t, 1, requests[4])
	if step.Left(o) != 3 {
		t.Errorf("Left of %+v: %d", o, step.Left(o))
	}
}

// Rule 5: what is answered hangs on what was handed in alone, in whatever order, and with others at the same time.
func TestSameAgain(t *testing.T) {
	run := func() []told {
		d := dice(4)
		var out []told
		for range 3000 {
			o, x, at := d.op(), d.tale(), d.stamp()
			out = append(out, do(&world{tale: x}, o, at), finish(&world{tale: x}, o, at))
			fresh, e := step.New(o.Number, o.Req)
			out = append(out, told{op: fresh, e: e, over: step.Enabled(&world{tale: x}, o)})
		}
		return out
	}
	want := run()
	all := make([][]told, 8)
	var wg sync.WaitGroup
	for i := range all {
		wg.Go(func() { all[i] = run() })
	}
	wg.Wait()
	for i, got := range all {
		if !slices.Equal(got, want) {
			t.Errorf("run %d differs", i)
		}
	}
}

// nested is a world that finishes another operation in itself whenever it is asked.
type nested struct {
	*world
	inner step.World
	t     *testing.T
}

func (n nested) Take(o api.Op) (api.Op, api.Code) {
	if got := finish(n.inner, fresh(n.t, 2, requests[4]), when); !got.over {
		n.t.Errorf("inner: %+v", got)
	}
	return n.world.Take(o)
}

// Rule 5: nothing is kept from call to call, nor while one goes on.
func TestNested(t *testing.T) {
	inner := &world{tale: tale{code: api.COK, ready: true}}
	outer := &world{tale: tale{found: otherOp, code: api.COK}}
	got := finish(nested{outer, inner, t}, fresh(t, 1, requests[6]), when)
	if got.reply != (api.Reply{Code: api.COK, Payload: otherOp.Payload}) || outer.did() != 2 || inner.did() != 3 {
		t.Errorf("outer: %+v, asked %+v and %+v", got, outer.asks, inner.asks)
	}
}

// Rule 1: bytes as operations and tales.
func FuzzStep(f *testing.F) {
	f.Add(1, uint8(3), uint8(0), uint8(0), uint32(65793), uint64(9), 2, uint8(1), true)
	f.Add(0, uint8(4), uint8(0), uint8(0), uint32(1), uint64(0), 5, uint8(4), false)
	f.Add(math.MaxInt, uint8(9), uint8(0), uint8(0), uint32(0), uint64(0), 1, uint8(200), false)
	f.Fuzz(func(t *testing.T, number int, kind, a, rights uint8, handle uint32, payload uint64, next int, code uint8, ready bool) {
		r := api.Request{Kind: api.ReqKind(kind), A: a, Rights: rights, Handle: handle, Payload: payload}
		x := tale{once: api.Reply{Code: api.Code(code), A: rights}, found: otherOp, code: api.Code(code), ready: ready}
		right(t, x, someOp(number, r, api.MStep(next)), api.Stamp{Tick: number, Step: next})
	})
}
