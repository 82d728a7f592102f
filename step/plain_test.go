package step_test

import (
	"math"
	"slices"
	"testing"

	"rampart/api"
	"rampart/step"
	"rampart/wire"
)

// edges are numbers at which something ends, and some that are far from all of them.
var edges = []int{math.MinInt, math.MinInt + 1, -1 << 40, -2, -1, 0, 1, 2, 3, 1 << 20, 1 << 32, 1 << 40, 1<<40 + 1, math.MaxInt - 1, math.MaxInt}

// rows are the micro-steps of each kind, as the chapter lists them.
var rows = map[api.ReqKind][]api.MStep{
	api.ROpen: {api.MOnce}, api.RClose: {api.MOnce}, api.RGrant: {api.MOnce}, api.RRevoke: {api.MOnce},
	api.RReset: {api.MOnce}, api.RRelease: {api.MOnce}, api.RPoll: {api.MOnce},
	api.RSend: {api.MClaim, api.MWrite, api.MPublish},
	api.RRecv: {api.MTake, api.MRetire},
}

// requests are well-formed ones, of each of the nine kinds.
var requests = []api.Request{
	{Kind: api.ROpen, A: 3, Rights: 7}, {Kind: api.ROpen, Rights: 1},
	{Kind: api.RClose, Handle: 65793}, {Kind: api.RClose},
	{Kind: api.RSend, Handle: 65793, Payload: 9}, {Kind: api.RSend, Handle: math.MaxUint32, Payload: math.MaxUint64},
	{Kind: api.RRecv, Handle: 66049}, {Kind: api.RRecv},
	{Kind: api.RGrant, A: 2, Rights: 5, Handle: 66560}, {Kind: api.RGrant, A: 255, Rights: 1},
	{Kind: api.RRevoke, Handle: 1}, {Kind: api.RReset, Handle: 2},
	{Kind: api.RRelease, A: 1, Payload: 77}, {Kind: api.RRelease, A: 255, Payload: math.MaxUint64},
	{Kind: api.RPoll},
}

// malformed are requests that wire.Check refuses: of no kind, and of each kind with what it does not name, or without what it does.
var malformed = []api.Request{
	{}, {Kind: 10}, {Kind: 255}, {A: 3, Rights: 7}, {Handle: 5, Payload: 5}, {Kind: 10, Handle: 5, Payload: 5},
	{Kind: api.ROpen}, {Kind: api.ROpen, Rights: 8}, {Kind: api.ROpen, Rights: 1, Handle: 1}, {Kind: api.ROpen, Rights: 1, Payload: 1},
	{Kind: api.RClose, A: 1}, {Kind: api.RClose, Payload: 1},
	{Kind: api.RSend, A: 1}, {Kind: api.RSend, Rights: 1, Handle: 65793, Payload: 9},
	{Kind: api.RRecv, Payload: 1}, {Kind: api.RRecv, Rights: 2},
	{Kind: api.RGrant, A: 2}, {Kind: api.RGrant, Rights: 255}, {Kind: api.RGrant, Rights: 1, Payload: 1},
	{Kind: api.RRevoke, A: 1, Handle: 1}, {Kind: api.RReset, Rights: 1, Handle: 2},
	{Kind: api.RRelease, Rights: 1}, {Kind: api.RRelease, Handle: 1},
	{Kind: api.RPoll, A: 1}, {Kind: api.RPoll, Rights: 1}, {Kind: api.RPoll, Handle: 1}, {Kind: api.RPoll, Payload: 1},
}

// steps are numbers of micro-steps: all kinds, and what is none.
var steps = []api.MStep{math.MinInt, -1, 0, api.MOnce, api.MClaim, api.MWrite, api.MPublish, api.MTake, api.MRetire, api.MOver, 8, math.MaxInt}

// someOp is an operation of a number, a request and a next micro-step that found something.
func someOp(number int, r api.Request, next api.MStep) api.Op {
	return api.Op{Number: number, Req: r, Next: next, Channel: 5, Lane: 6, Ticket: api.Ticket{Seq: 7, Epoch: 8}, Payload: 99}
}

// otherOp is an operation of which every field is another one than those of some.
var otherOp = api.Op{Number: -4, Req: api.Request{Kind: 77, A: 78, Rights: 79, Handle: 80, Payload: 81}, Next: 9, Channel: -10, Lane: -11, Ticket: api.Ticket{Seq: 12, Epoch: 13}, Payload: 14}

// ask is what a world was asked once: which micro-step (0: Ready), of which operation, under which stamp (where it has one).
type ask struct {
	what api.MStep
	op   api.Op
	at   api.Stamp
}

// tale is what a world tells.
type tale struct {
	once  api.Reply
	found api.Op
	code  api.Code
	ready bool
}

// world tells a tale, and keeps what it was asked. It may change its tale behind each.
type world struct {
	tale
	asks   []ask
	change func() tale
}

func (w *world) asked(x ask) tale {
	told := w.tale
	w.asks = append(w.asks, x)
	if w.change != nil {
		w.tale = w.change()
	}
	return told
}

func (w *world) Once(o api.Op, at api.Stamp) api.Reply {
	return w.asked(ask{api.MOnce, o, at}).once
}

func (w *world) Claim(o api.Op) (api.Op, api.Code) {
	x := w.asked(ask{what: api.MClaim, op: o})
	return x.found, x.code
}

func (w *world) Write(o api.Op) { w.asked(ask{what: api.MWrite, op: o}) }

func (w *world) Ready(o api.Op) bool { return w.asked(ask{op: o}).ready }

func (w *world) Publish(o api.Op, at api.Stamp) { w.asked(ask{api.MPublish, o, at}) }

func (w *world) Take(o api.Op) (api.Op, api.Code) {
	x := w.asked(ask{what: api.MTake, op: o})
	return x.found, x.code
}

func (w *world) Retire(o api.Op) { w.asked(ask{what: api.MRetire, op: o}) }

// did counts what a world was asked beside Ready.
func (w *world) did() int {
	n := 0
	for _, x := range w.asks {
		if x.what != 0 {
			n++
		}
	}
	return n
}

// told is what Do and Finish tell.
type told struct {
	op    api.Op
	reply api.Reply
	over  bool
	e     api.Errno
}

func do(w step.World, o api.Op, at api.Stamp) told {
	x, r, over, e := step.Do(w, o, at)
	return told{x, r, over, e}
}

func finish(w step.World, o api.Op, at api.Stamp) told {
	x, r, over, e := step.Finish(w, o, at)
	return told{x, r, over, e}
}

// plainLeft is how many micro-steps the chapter's words leave of an operation.
func plainLeft(o api.Op) int {
	if o.Number <= 0 || wire.Check(o.Req) != 0 {
		return 0
	}
	left := 0
	for _, m := range rows[o.Req.Kind] {
		if m == o.Next || left > 0 {
			left++
		}
	}
	return left
}

// plainDo is what the chapter's words have Do tell, and ask of a world that tells a tale.
func plainDo(x tale, o api.Op, at api.Stamp) (told, []ask) {
	if plainLeft(o) == 0 {
		return told{e: 170}, nil
	}
	over, on := o, o
	over.Next = 7
	switch o.Next {
	case 1:
		return told{over, x.once, true, 0}, []ask{{1, o, at}}
	case 3:
		on.Next = 4
		return told{op: on}, []ask{{what: 3, op: o}}
	case 4:
		if !x.ready {
			return told{e: 171}, []ask{{op: o}}
		}
		return told{over, api.Reply{Code: 1}, true, 0}, []ask{{op: o}, {4, o, at}}
	case 6:
		return told{over, api.Reply{Code: 1, Payload: o.Payload}, true, 0}, []ask{{what: 6, op: o}}
	}
	asks := []ask{{what: o.Next, op: o}} // MClaim is 2, MTake is 5; what comes behind each is one more
	if x.code == 1 {
		found := x.found
		found.Number, found.Req, found.Next = o.Number, o.Req, o.Next+1
		return told{op: found}, asks
	}
	code := x.code
	if code < 1 || code > 4 {
		code = 2
	}
	return told{over, api.Reply{Code: code}, true, 0}, asks
}

// plainFinish is what the chapter's words have Finish tell, and ask.
func plainFinish(x tale, o api.Op, at api.Stamp) (told, []ask) {
	got, asks := plainDo(x, o, at)
	switch {
	case got.e == 171:
		return told{op: o}, asks
	case got.e != 0:
		return told{op: o, e: got.e}, asks
	case got.over:
		return got, asks
	}
	got, more := plainFinish(x, got.op, at)
	return got, append(asks, more...)
}

// does fails where Do does not tell, and ask, what the chapter's words have it.
func does(t testing.TB, x tale, o api.Op, at api.Stamp) told {
	t.Helper()
	w := &world{tale: x}
	got := do(w, o, at)
	if want, asks := plainDo(x, o, at); got != want || !slices.Equal(w.asks, asks) {
		t.Fatalf("Do of %+v, told %+v:\n%+v, want\n%+v; asked %+v, want %+v", o, x, got, want, w.asks, asks)
	}
	return got
}

// finishes fails where Finish does not tell, and ask, what the chapter's words have it.
func finishes(t testing.TB, x tale, o api.Op, at api.Stamp) told {
	t.Helper()
	w := &world{tale: x}
	got := finish(w, o, at)
	if want, asks := plainFinish(x, o, at); got != want || !slices.Equal(w.asks, asks) {
		t.Fatalf("Finish of %+v, told %+v:\n%+v, want\n%+v; asked %+v, want %+v", o, x, got, want, w.asks, asks)
	}
	return got
}

// right fails where a call about an operation does not tell, and ask, what the chapter's words have it, in a world that tells a tale and in none.
func right(t testing.TB, x tale, o api.Op, at api.Stamp) {
	t.Helper()
	left := plainLeft(o)
	if n := step.Left(o); n != left {
		t.Fatalf("Left of %+v: %d, want %d", o, n, left)
	}
	does(t, x, o, at)
	finishes(t, x, o, at)
	w := &world{tale: x}
	var asks []ask
	enabled := left > 0
	if enabled && o.Next == 4 {
		enabled, asks = x.ready, []ask{{op: o}}
	}
	if got := step.Enabled(w, o); got != enabled || !slices.Equal(w.asks, asks) {
		t.Fatalf("Enabled of %+v: %t; asked %+v, want %+v", o, got, w.asks, asks)
	}
	if step.Enabled(nil, o) {
		t.Fatalf("Enabled in no world of %+v", o)
	}
	if got := do(nil, o, at); got != (told{e: 4}) {
		t.Fatalf("Do in no world of %+v: %+v", o, got)
	}
	if got := finish(nil, o, at); got != (told{op: o, e: 4}) {
		t.Fatalf("Finish in no world of %+v: %+v", o, got)
	}
}

// fresh is a new operation.
func fresh(t testing.TB, number int, r api.Request) api.Op {
	t.Helper()
	o, e := step.New(number, r)
	if e != api.OK || o != (api.Op{Number: number, Req: r, Next: rows[r.Kind][0]}) {
		t.Fatalf("New(%d, %+v) = %+v, %d", number, r, o, e)
	}
	return o
}

// dice are numbers that hang on where they begin alone.
type dice uint64

func (d *dice) next() uint64 {
	*d += 0x9e3779b97f4a7c15
	x := uint64(*d)
	x = (x ^ x>>30) * 0xbf58476d1ce4e5b9
	x = (x ^ x>>27) * 0x94d049bb133111eb
	return x ^ x>>31
}

// to is a number below n.
func (d *dice) to(n int) int { return int(d.next() % uint64(n)) }

// edge is one of the edges.
func (d *dice) edge() int { return edges[d.to(len(edges))] }

// request is a request, well-formed more often than not.
func (d *dice) request() api.Request {
	switch d.to(5) {
	case 0:
		return malformed[d.to(len(malformed))]
	case 1:
		return api.Request{Kind: api.ReqKind(d.to(12)), A: uint8(d.to(3)), Rights: uint8(d.to(10)), Handle: uint32(d.to(2)), Payload: d.next()}
	}
	return requests[d.to(len(requests))]
}

// op is an operation, that may be more often than not.
func (d *dice) op() api.Op {
	o := api.Op{Number: 1 + d.to(9), Req: d.request(), Next: api.MStep(d.to(9)), Channel: d.edge(), Lane: d.edge(), Ticket: api.Ticket{Seq: d.next(), Epoch: d.next()}, Payload: d.next()}
	if row := rows[o.Req.Kind]; len(row) > 0 && d.to(3) > 0 {
		o.Next = row[d.to(len(row))]
	}
	if d.to(6) == 0 {
		o.Number = d.edge()
	}
	return o
}

// tale is what a world may tell, at random.
func (d *dice) tale() tale {
	x := tale{
		once:  api.Reply{Code: api.Code(d.to(6)), A: uint8(d.to(256)), Handle: uint32(d.next()), Payload: d.next()},
		found: d.op(),
		code:  api.COK,
		ready: d.to(2) == 0,
	}
	if d.to(3) == 0 {
		x.code = api.Code(d.to(256))
	}
	return x
}

// stamp is any stamp.
func (d *dice) stamp() api.Stamp { return api.Stamp{Tick: d.edge(), Step: d.edge()} }
