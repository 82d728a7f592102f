package step_test

import (
	"fmt"
	"math"
	"slices"
	"testing"

	"rampart/api"
	"rampart/step"
)

// when is a stamp under which micro-steps are done.
var when = api.Stamp{Tick: 20, Step: 3}

// The chapter's example.
func TestExample(t *testing.T) {
	o := fresh(t, 1, api.Request{Kind: api.RSend, Handle: 65793, Payload: 9})

	busy := &world{tale: tale{code: api.CBusy}}
	got := do(busy, o, when)
	if !got.over || got.e != api.OK || got.reply != (api.Reply{Code: api.CBusy}) || got.op.Next != api.MOver {
		t.Errorf("Claim tells CBusy: %+v", got)
	}

	w := &world{tale: tale{code: api.COK, ready: true}}
	got = do(w, o, when) // Claim COK
	if got.over || got.e != api.OK || got.reply != (api.Reply{}) {
		t.Errorf("Claim tells COK: %+v", got)
	}
	got = do(w, got.op, when) // Write
	if got.over || got.e != api.OK || got.reply != (api.Reply{}) {
		t.Errorf("Write: %+v", got)
	}
	got = do(w, got.op, when) // Publish
	if !got.over || got.e != api.OK || got.reply != (api.Reply{Code: api.COK}) || got.op.Next != api.MOver {
		t.Errorf("Publish: %+v", got)
	}
	var names []api.MStep
	for _, x := range w.asks {
		names = append(names, x.what)
	}
	if !slices.Equal(names, []api.MStep{api.MClaim, api.MWrite, 0, api.MPublish}) {
		t.Errorf("asked %v", names)
	}
}

// P17.1: New of a number below 1, ahead of a request that is not well-formed; of that; else that operation.
func TestNew(t *testing.T) {
	for _, number := range edges {
		for _, r := range requests {
			if number > 0 {
				fresh(t, number, r)
			} else if o, e := step.New(number, r); o != (api.Op{}) || e != 1 {
				t.Errorf("New(%d, %+v) = %+v, %d", number, r, o, e)
			}
		}
		for _, r := range malformed {
			want := api.Errno(30)
			if number < 1 {
				want = 1
			}
			if o, e := step.New(number, r); o != (api.Op{}) || e != want {
				t.Errorf("New(%d, %+v) = %+v, %d, want %d", number, r, o, e, want)
			}
		}
	}
}

// P17.1: Steps of all kinds, and of all that are none.
func TestSteps(t *testing.T) {
	for k := range 256 {
		if got := step.Steps(api.ReqKind(k)); !slices.Equal(got, rows[api.ReqKind(k)]) {
			t.Errorf("Steps(%d) = %v", k, got)
		}
	}
	if n := len(step.Steps(api.RSend)) + len(step.Steps(api.RRecv)) + len(step.Steps(api.RPoll)); n != 6 {
		t.Errorf("%d micro-steps", n)
	}
}

// P17.1: Left of each kind, from each of its micro-steps on.
func TestLeft(t *testing.T) {
	for _, x := range []struct {
		kind api.ReqKind
		next api.MStep
		want int
	}{
		{api.RSend, api.MClaim, 3}, {api.RSend, api.MWrite, 2}, {api.RSend, api.MPublish, 1}, {api.RSend, api.MOver, 0},
		{api.RSend, api.MOnce, 0}, {api.RSend, api.MTake, 0}, {api.RSend, api.MRetire, 0}, {api.RSend, 0, 0}, {api.RSend, 8, 0},
		{api.RRecv, api.MTake, 2}, {api.RRecv, api.MRetire, 1}, {api.RRecv, api.MOver, 0},
		{api.RRecv, api.MOnce, 0}, {api.RRecv, api.MClaim, 0}, {api.RRecv, api.MWrite, 0}, {api.RRecv, api.MPublish, 0}, {api.RRecv, -1, 0},
		{api.RPoll, api.MOnce, 1}, {api.RPoll, api.MOver, 0}, {api.RPoll, api.MClaim, 0}, {api.RPoll, api.MTake, 0},
		{api.RClose, api.MOnce, 1}, {api.RRevoke, api.MOnce, 1}, {api.RReset, api.MOnce, 1}, {api.RRelease, api.MOnce, 1},
		{0, 0, 0}, {0, api.MOnce, 0}, {10, api.MOnce, 0},
	} {
		for _, number := range []int{math.MinInt, -1, 0, 1, 2, 1 << 40, math.MaxInt} {
			want := x.want
			if number < 1 {
				want = 0
			}
			if got := step.Left(api.Op{Number: number, Req: api.Request{Kind: x.kind}, Next: x.next}); got != want {
				t.Errorf("Left of number %d, kind %d, next %d: %d, want %d", number, x.kind, x.next, got, want)
			}
		}
	}
}

// P17.1 to P17.4, rule 2: all kinds of operations, those that may not be and those that are over among them, in worlds that tell this and that, and in none: ErrNil is ahead of ErrOver, and that ahead of ErrBlocked.
func TestAllOps(t *testing.T) {
	tales := []tale{
		{},
		{once: api.Reply{Code: api.COK, A: 3, Handle: 4, Payload: 5}, found: otherOp, code: api.COK, ready: true},
		{once: api.Reply{Code: api.CBusy}, found: otherOp, code: api.CBusy, ready: true},
		{found: otherOp, code: api.COK},
		{once: api.Reply{Code: 200}, found: otherOp, code: 200, ready: true},
	}
	for _, r := range slices.Concat(requests, malformed) {
		for _, number := range edges {
			for _, next := range steps {
				for _, x := range tales {
					right(t, x, someOp(number, r, next), when)
					right(t, x, api.Op{Number: number, Req: r, Next: next}, api.Stamp{})
				}
			}
		}
	}
}

// P17.2, P17.3, P17.4: what may not be, and what is over, is answered so whether a world is there or not, and that world is asked for nothing.
func TestMayNotBe(t *testing.T) {
	send := requests[4]
	for name, o := range map[string]api.Op{
		"zero":              {},
		"number 0":          {Req: send, Next: api.MClaim},
		"number below":      {Number: -1, Req: send, Next: api.MPublish},
		"number far below":  {Number: math.MinInt, Req: send, Next: api.MPublish},
		"no kind":           {Number: 1, Next: api.MOnce},
		"malformed":         {Number: 1, Req: api.Request{Kind: api.RSend, A: 1}, Next: api.MPublish},
		"malformed, over":   {Number: 1, Req: api.Request{Kind: api.RSend, A: 1}, Next: api.MOver},
		"another kind's":    {Number: 1, Req: send, Next: api.MTake},
		"one of one":        {Number: 1, Req: api.Request{Kind: api.RPoll}, Next: api.MPublish},
		"no micro-step":     {Number: 1, Req: send},
		"below micro-steps": {Number: 1, Req: send, Next: -1},
		"above micro-steps": {Number: 1, Req: send, Next: 8},
		"over":              {Number: 1, Req: send, Next: api.MOver},
		"over, kind 9":      {Number: 1, Req: api.Request{Kind: api.RPoll}, Next: api.MOver, Payload: 3},
	} {
		w := &world{tale: tale{code: api.COK, ready: true}}
		if step.Left(o) != 0 || step.Enabled(w, o) || step.Enabled(nil, o) {
			t.Errorf("%s: Left %d, Enabled %t, %t", name, step.Left(o), step.Enabled(w, o), step.Enabled(nil, o))
		}
		if got := do(w, o, when); got != (told{e: 170}) {
			t.Errorf("%s: Do = %+v", name, got)
		}
		if got := finish(w, o, when); got != (told{op: o, e: 170}) {
			t.Errorf("%s: Finish = %+v", name, got)
		}
		if got := do(nil, o, when); got != (told{e: 4}) {
			t.Errorf("%s: Do in no world = %+v", name, got)
		}
		if got := finish(nil, o, when); got != (told{op: o, e: 4}) {
			t.Errorf("%s: Finish in no world = %+v", name, got)
		}
		if len(w.asks) != 0 {
			t.Errorf("%s: asked %+v", name, w.asks)
		}
	}
}

// P17.2: Enabled asks Ready at MPublish, of that operation, and else nothing.
func TestEnabled(t *testing.T) {
	for kind, row := range rows {
		r := requests[slices.IndexFunc(requests, func(r api.Request) bool { return r.Kind == kind })]
		for _, next := range row {
			for _, ready := range []bool{false, true} {
				o := someOp(4, r, next)
				w := &world{tale: tale{ready: ready}}
				want := ready || next != api.MPublish
				if got := step.Enabled(w, o); got != want {
					t.Errorf("kind %d, next %d, ready %t: %t", kind, next, ready, got)
				}
				if next != api.MPublish && len(w.asks) != 0 || next == api.MPublish && !slices.Equal(w.asks, []ask{{op: o}}) {
					t.Errorf("kind %d, next %d: asked %+v", kind, next, w.asks)
				}
				if step.Enabled(nil, o) {
					t.Errorf("kind %d, next %d: enabled in no world", kind, next)
				}
			}
		}
	}
}

// P17.3, MOnce: whatever reply Once tells is the reply, one that may not be among them.
func TestOnce(t *testing.T) {
	for _, r := range requests {
		if len(rows[r.Kind]) > 1 {
			continue
		}
		for code := range 256 {
			for _, reply := range []api.Reply{{Code: api.Code(code)}, {Code: api.Code(code), A: 255, Handle: math.MaxUint32, Payload: math.MaxUint64}} {
				o := someOp(9, r, api.MOnce)
				got := does(t, tale{once: reply, found: otherOp, code: api.CBusy}, o, when)
				o.Next = api.MOver
				if got != (told{o, reply, true, 0}) {
					t.Errorf("Once tells %+v: %+v", reply, got)
				}
			}
		}
	}
}

// P17.3, MClaim and MTake: at COK the operation has the four fields of what was told, whatever they are, and none of its others; there is no reply yet.
func TestFound(t *testing.T) {
	for _, x := range []struct {
		r          api.Request
		next, then api.MStep
	}{{requests[4], api.MClaim, api.MWrite}, {requests[6], api.MTake, api.MRetire}} {
		for _, n := range edges {
			found := api.Op{Number: 3, Req: requests[0], Next: api.MOver, Channel: n, Lane: n + 1, Ticket: api.Ticket{Seq: uint64(n + 2), Epoch: uint64(n + 3)}, Payload: uint64(n + 4)}
			want := api.Op{Number: 9, Req: x.r, Next: x.then, Channel: n, Lane: n + 1, Ticket: api.Ticket{Seq: uint64(n + 2), Epoch: uint64(n + 3)}, Payload: uint64(n + 4)}
			if got := does(t, tale{found: found, code: api.COK}, someOp(9, x.r, x.next), when); got != (told{op: want}) {
				t.Errorf("next %d: %+v, want %+v", x.next, got, want)
			}
		}
		want := otherOp
		want.Number, want.Req, want.Next = 9, x.r, x.then
		if got := does(t, tale{found: otherOp, code: api.COK}, someOp(9, x.r, x.next), when); got != (told{op: want}) {
			t.Errorf("next %d: %+v, want %+v", x.next, got, want)
		}
		if got := does(t, tale{code: api.COK}, someOp(9, x.r, x.next), when); got != (told{op: api.Op{Number: 9, Req: x.r, Next: x.then}}) {
			t.Errorf("next %d, found zero: %+v", x.next, got)
		}
	}
}

// P17.3, MClaim and MTake: at all other codes it is over, with nothing of what was told but the code, and at what is no code CDenied.
func TestFoundNothing(t *testing.T) {
	for code := range 256 {
		if code == 1 {
			continue
		}
		want := api.Reply{Code: api.CDenied}
		if code == 3 || code == 4 {
			want.Code = api.Code(code)
		}
		for _, o := range []api.Op{someOp(9, requests[4], api.MClaim), someOp(9, requests[6], api.MTake)} {
			got := does(t, tale{found: otherOp, code: api.Code(code), ready: true}, o, when)
			o.Next = api.MOver
			if got != (told{o, want, true, 0}) {
				t.Errorf("code %d: %+v", code, got)
			}
		}
	}
}

// P17.3, MWrite and MPublish: a write is told no reply; a publish waits for Ready, is told with the stamp, and its reply is COK alone.
func TestWriteAndPublish(t *testing.T) {
	o := someOp(9, requests[5], api.MWrite)
	behind := o
	behind.Next = api.MPublish
	if got := does(t, tale{found: otherOp, code: api.CBusy}, o, when); got != (told{op: behind}) {
		t.Errorf("Write: %+v", got)
	}
	if got := does(t, tale{found: otherOp, code: api.COK}, behind, when); got != (told{e: 171}) {
		t.Errorf("Publish ahead of Ready: %+v", got)
	}
	over := o
	over.Next = api.MOver
	for _, tick := range edges {
		for _, place := range edges {
			if got := does(t, tale{ready: true}, behind, api.Stamp{Tick: tick, Step: place}); got != (told{over, api.Reply{Code: api.COK}, true, 0}) {
				t.Errorf("Publish: %+v", got)
			}
		}
	}
}

// P17.3, MRetire: the reply is COK with the operation's payload, not the request's, nor anything that is told.
func TestRetire(t *testing.T) {
	for _, payload := range []uint64{0, 1, 77, 1 << 63, math.MaxUint64} {
		o := someOp(9, requests[6], api.MRetire)
		o.Payload = payload
		got := does(t, tale{once: api.Reply{Code: api.CBusy, Payload: 3}, found: otherOp, code: api.CEmpty}, o, when)
		o.Next = api.MOver
		if got != (told{o, api.Reply{Code: api.COK, Payload: payload}, true, 0}) {
			t.Errorf("Retire: %+v", got)
		}
	}
}

// P17.3: what is told goes from micro-step to micro-step: the world is asked with what it told ahead.
func TestThrough(t *testing.T) {
	w := &world{tale: tale{found: otherOp, code: api.COK, ready: true}}
	send := fresh(t, 1, requests[4])
	claimed := otherOp
	claimed.Number, claimed.Req, claimed.Next = 1, requests[4], api.MWrite
	written, over := claimed, claimed
	written.Next, over.Next = api.MPublish, api.MOver
	for _, want := range []told{{op: claimed}, {op: written}, {over, api.Reply{Code: api.COK}, true, 0}, {e: 170}} {
		got := do(w, send, when)
		if got != want {
			t.Fatalf("Do of %+v = %+v, want %+v", send, got, want)
		}
		send = got.op
	}
	if want := []ask{{what: api.MClaim, op: fresh(t, 1, requests[4])}, {what: api.MWrite, op: claimed}, {op: written}, {api.MPublish, written, when}}; !slices.Equal(w.asks, want) {
		t.Errorf("asked %+v, want %+v", w.asks, want)
	}

	w = &world{tale: tale{found: otherOp, code: api.COK}}
	recv := fresh(t, 2, requests[6])
	taken := otherOp
	taken.Number, taken.Req, taken.Next = 2, requests[6], api.MRetire
	over = taken
	over.Next = api.MOver
	for _, want := range []told{{op: taken}, {over, api.Reply{Code: api.COK, Payload: otherOp.Payload}, true, 0}, {e: 170}} {
		got := do(w, recv, when)
		if got != want {
			t.Fatalf("Do of %+v = %+v, want %+v", recv, got, want)
		}
		recv = got.op
	}
	if want := []ask{{what: api.MTake, op: fresh(t, 2, requests[6])}, {what: api.MRetire, op: taken}}; !slices.Equal(w.asks, want) {
		t.Errorf("asked %+v, want %+v", w.asks, want)
	}
}

// P17.4: to the end in one call, of each kind.
func TestFinish(t *testing.T) {
	reply := api.Reply{Code: api.COK, A: 3, Handle: 65793, Payload: 4}
	for _, r := range requests {
		x := tale{once: reply, found: otherOp, code: api.COK, ready: true}
		got := finishes(t, x, fresh(t, 7, r), when)
		want := told{api.Op{Number: 7, Req: r, Next: api.MOver}, reply, true, 0}
		if len(rows[r.Kind]) > 1 {
			want.op = otherOp
			want.op.Number, want.op.Req, want.op.Next = 7, r, api.MOver
			want.reply = api.Reply{Code: api.COK}
		}
		if r.Kind == api.RRecv {
			want.reply.Payload = otherOp.Payload
		}
		if got != want {
			t.Errorf("%+v: %+v, want %+v", r, got, want)
		}
	}
}

// P17.4: to the end from the first micro-step on, when that finds nothing.
func TestFinishFindsNothing(t *testing.T) {
	for _, r := range []api.Request{requests[4], requests[6]} {
		for code, want := range map[api.Code]api.Code{0: 2, 2: 2, 3: 3, 4: 4, 5: 2, 255: 2} {
			got := finishes(t, tale{found: otherOp, code: code}, fresh(t, 7, r), when)
			if got != (told{api.Op{Number: 7, Req: r, Next: api.MOver}, api.Reply{Code: want}, true, 0}) {
				t.Errorf("kind %d, code %d: %+v", r.Kind, code, got)
			}
		}
	}
}

// P17.4: up to an MPublish that is not ready, there again with nothing done, and on from there.
func TestFinishBlocked(t *testing.T) {
	w := &world{tale: tale{found: otherOp, code: api.COK}}
	want := otherOp
	want.Number, want.Req, want.Next = 7, requests[4], api.MPublish
	got := finish(w, fresh(t, 7, requests[4]), when)
	if got != (told{op: want}) || w.did() != 2 || len(w.asks) != 3 {
		t.Fatalf("Finish = %+v, asked %+v", got, w.asks)
	}
	if step.Enabled(w, got.op) || step.Left(got.op) != 1 {
		t.Errorf("%+v is enabled", got.op)
	}
	if got := finish(w, want, when); got != (told{op: want}) || w.did() != 2 { // blocked from the start
		t.Errorf("Finish = %+v, asked %+v", got, w.asks)
	}
	w.ready = true
	got = finish(w, want, api.Stamp{Tick: 21})
	want.Next = api.MOver
	if got != (told{want, api.Reply{Code: api.COK}, true, 0}) || w.did() != 3 || w.asks[len(w.asks)-1].at != (api.Stamp{Tick: 21}) {
		t.Errorf("Finish = %+v, asked %+v", got, w.asks)
	}
	if got := finish(w, got.op, when); got != (told{op: want, e: 170}) || w.did() != 3 {
		t.Errorf("Finish = %+v, asked %+v", got, w.asks)
	}
}

// P17.3, P17.4: Ready is asked once ahead of a publish, so that what it tells then is what holds.
func TestReadyOnce(t *testing.T) {
	for _, call := range []func(step.World, api.Op, api.Stamp) told{do, finish} {
		w := &world{tale: tale{ready: true}, change: func() tale { return tale{} }}
		if got := call(w, someOp(1, requests[4], api.MPublish), when); !got.over || len(w.asks) != 2 {
			t.Errorf("ready at first: %+v, asked %+v", got, w.asks)
		}
		w = &world{change: func() tale { return tale{ready: true} }}
		if got := call(w, someOp(1, requests[4], api.MPublish), when); got.over || len(w.asks) != 1 {
			t.Errorf("ready later: %+v, asked %+v", got, w.asks)
		}
	}
}

// value is a world that is no pointer.
type value struct{ code api.Code }

func (v value) Once(o api.Op, at api.Stamp) api.Reply { return api.Reply{Code: v.code} }
func (v value) Claim(o api.Op) (api.Op, api.Code)     { return o, v.code }
func (v value) Write(o api.Op)                        {}
func (v value) Ready(o api.Op) bool                   { return true }
func (v value) Publish(o api.Op, at api.Stamp)        {}
func (v value) Take(o api.Op) (api.Op, api.Code)      { return o, v.code }
func (v value) Retire(o api.Op)                       {}

// P17.2 to P17.4: worlds of all types are asked alike, zero ones among them: none but nil is none.
func TestAnyWorld(t *testing.T) {
	for name, w := range map[string]step.World{"a value": value{api.COK}, "a pointer": &value{api.COK}, "embedded": struct{ step.World }{value{api.COK}}} {
		for _, r := range requests {
			o := fresh(t, 2, r)
			if got := finish(w, o, when); !got.over || got.reply.Code != api.COK || !step.Enabled(w, o) {
				t.Errorf("%s: %+v: %+v", name, r, got)
			}
		}
	}
	if got := do(value{}, fresh(t, 2, requests[6]), when); got.reply != (api.Reply{Code: api.CDenied}) {
		t.Errorf("zero: %+v", got)
	}
}

// P17.3: all micro-steps of all kinds ask for just what is theirs.
func TestAsked(t *testing.T) {
	asked := map[string]int{}
	for kind, row := range rows {
		r := requests[slices.IndexFunc(requests, func(r api.Request) bool { return r.Kind == kind })]
		for _, next := range row {
			w := &world{tale: tale{found: otherOp, code: api.COK, ready: true}}
			o := someOp(3, r, next)
			do(w, o, when)
			for _, x := range w.asks {
				if x.op != o {
					t.Errorf("%d of kind %d: asked with %+v", next, kind, x.op)
				}
				if stamped := x.what == api.MOnce || x.what == api.MPublish; stamped != (x.at == when) {
					t.Errorf("%d of kind %d: asked under %+v", next, kind, x.at)
				}
				asked[fmt.Sprint(next, x.what)]++
			}
		}
	}
	want := map[string]int{"1 1": 7, "2 2": 1, "3 3": 1, "4 0": 1, "4 4": 1, "5 5": 1, "6 6": 1}
	if fmt.Sprint(asked) != fmt.Sprint(want) {
		t.Errorf("asked %v, want %v", asked, want)
	}
}
