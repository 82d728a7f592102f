package queue_test

import (
	"fmt"
	"math"
	"slices"
	"strings"
	"testing"

	"rampart/api"
	"rampart/queue"
)

// last is the last number of a claim, and the last epoch.
const last = 1 << 40

// deed is a call: a lane, a claim, a message and a payload, as its kind has them.
type deed struct {
	kind    string
	lane    int
	claim   api.Claim
	msg     api.PlainMsg
	payload uint64
}

// told is what a call answers, all of it; the queue as a text.
type told struct {
	queue string
	claim api.Claim
	msg   api.PlainMsg
	ok    bool
	e     api.Errno
}

// kinds are all calls that are handed one queue.
var kinds = []string{"Claim", "Publish", "Take", "Retire", "Reset", "Ready", "Check"}

// call does a deed to a queue, and tells the queue that comes of it beside all else.
func call(q api.Queue, d deed) (next api.Queue, got told) {
	switch d.kind {
	case "Claim":
		next, got.claim, got.e = queue.Claim(q, d.lane)
	case "Publish":
		next, got.e = queue.Publish(q, d.claim, d.payload)
	case "Take":
		next, got.msg, got.e = queue.Take(q)
	case "Retire":
		next, got.e = queue.Retire(q, d.msg)
	case "Reset":
		next, got.e = queue.Reset(q, d.lane)
	case "Ready":
		got.ok = queue.Ready(q, d.claim)
	case "Check":
		got.e = queue.Check(q)
	default:
		panic(d.kind)
	}
	got.queue = text(next)
	return next, got
}

// text is a queue as a text, field by field, the same one for nil and for empty lists.
func text(q api.Queue) string {
	var b strings.Builder
	for _, l := range q.Lanes {
		fmt.Fprintf(&b, "lane %d %v left %d claims %v next %d epoch %d\n", l.Credit, l.TwoWay, l.Left, l.Claims, l.Next, l.Epoch)
	}
	for _, m := range q.Q {
		fmt.Fprintf(&b, "message %d %d %d %d\n", m.Lane, m.Epoch, m.N, m.Payload)
	}
	return b.String()
}

// mark stands where nobody may write.
const mark = -77777

// roomy is a queue with the same things, whose lists have room behind them, with marks there.
func roomy(q api.Queue) api.Queue {
	out := api.Queue{Lanes: make([]api.PlainLane, len(q.Lanes)+2), Q: make([]api.PlainMsg, len(q.Q)+2)}
	for i := range out.Lanes {
		l := api.PlainLane{Credit: mark}
		if i < len(q.Lanes) {
			l = q.Lanes[i]
		}
		l.Claims = append(slices.Clone(l.Claims), mark, mark)[:len(l.Claims)]
		out.Lanes[i] = l
	}
	for i := range out.Q {
		out.Q[i] = api.PlainMsg{Lane: mark}
		if i < len(q.Q) {
			out.Q[i] = q.Q[i]
		}
	}
	out.Lanes, out.Q = out.Lanes[:len(q.Lanes)], out.Q[:len(q.Q)]
	return out
}

// whole is a queue with its lists up to the ends of their rooms.
func whole(q api.Queue) api.Queue {
	out := api.Queue{Lanes: slices.Clone(q.Lanes[:cap(q.Lanes)]), Q: q.Q[:cap(q.Q)]}
	for i, l := range out.Lanes {
		out.Lanes[i].Claims = l.Claims[:cap(l.Claims)]
	}
	return out
}

// scribble writes over all that a queue has, and over the rooms behind its lists.
func scribble(q api.Queue) {
	for i, l := range q.Lanes[:cap(q.Lanes)] {
		for k := range l.Claims[:cap(l.Claims)] {
			l.Claims[:cap(l.Claims)][k] = mark - 1
		}
		q.Lanes[:cap(q.Lanes)][i] = api.PlainLane{Credit: mark - 1}
	}
	for i := range q.Q[:cap(q.Q)] {
		q.Q[:cap(q.Q)][i] = api.PlainMsg{Lane: mark - 1}
	}
}

// kept is a queue with the same things, which nobody else has.
func kept(q api.Queue) api.Queue {
	out := api.Queue{Lanes: slices.Clone(q.Lanes), Q: slices.Clone(q.Q)}
	for i, l := range out.Lanes {
		out.Lanes[i].Claims = slices.Clone(l.Claims)
	}
	return out
}

// do does a deed to a queue, and fails where what is handed in is changed, or where what is told shares memory with it, with another answer, or in itself.
func do(t testing.TB, q api.Queue, d deed) (api.Queue, told) {
	t.Helper()
	in := roomy(q)
	before := text(whole(in))
	one, got := call(in, d)
	two, again := call(in, d)
	if got != again {
		t.Fatalf("%v: %+v, and again: %+v", d, got, again)
	}
	if s := text(whole(in)); s != before {
		t.Fatalf("%v: what is handed in was\n%s, and is\n%s", d, before, s)
	}
	next := kept(one)
	scribble(in)
	if s := text(one); s != got.queue {
		t.Fatalf("%v: what is told is what was handed in: %s", d, s)
	}
	apart(t, one)
	scribble(one)
	if s := text(two); s != got.queue {
		t.Fatalf("%v: what is told is another answer: %s", d, s)
	}
	return next, got
}

// apart writes into each list of claims, to the end of its room, and fails if another one is changed.
func apart(t testing.TB, q api.Queue) {
	t.Helper()
	for i := range q.Lanes {
		own := slices.Clone(q.Lanes[i].Claims)
		want := text(q)
		room := q.Lanes[i].Claims[:cap(q.Lanes[i].Claims)]
		for k := range room {
			room[k] = mark
		}
		copy(room, own)
		if s := text(q); s != want {
			t.Fatalf("lane %d's claims are another list too: %s, want %s", i, s, want)
		}
	}
}

// mayBe is the chapter's word.
func mayBe(q api.Queue) bool {
	if len(q.Lanes) > 16 {
		return false
	}
	for i, l := range q.Lanes {
		if l.Credit < 1 || l.Credit > 64 || l.Left < 0 || l.Left > l.Credit || l.Next < 0 || l.Next > last || l.Epoch < 0 || l.Epoch > last {
			return false
		}
		for k, n := range l.Claims {
			if n < 0 || n >= l.Next || k > 0 && n <= l.Claims[k-1] {
				return false
			}
		}
		if taken(q, i) < 0 {
			return false
		}
	}
	for _, m := range q.Q {
		if m.Lane < 0 || m.Lane >= len(q.Lanes) || m.Epoch != q.Lanes[m.Lane].Epoch {
			return false
		}
	}
	return true
}

// taken is the chapter's word.
func taken(q api.Queue, lane int) int {
	n := q.Lanes[lane].Credit - q.Lanes[lane].Left - len(q.Lanes[lane].Claims)
	for _, m := range q.Q {
		if m.Lane == lane {
			n--
		}
	}
	return n
}

// place is the place of a claim among those of its lane that are open; -1, if it is not.
func place(q api.Queue, c api.Claim) int {
	for i, l := range q.Lanes {
		for k, n := range l.Claims {
			if (api.Claim{Lane: i, N: n, Epoch: l.Epoch}) == c {
				return k
			}
		}
	}
	return -1
}

// plain is what the chapter's words say that a deed tells.
func plain(q api.Queue, d deed) told {
	if !mayBe(q) {
		if d.kind == "Ready" {
			return told{}
		}
		return told{e: 100}
	}
	q = kept(q)
	switch d.kind {
	case "Claim":
		return plainClaim(q, d.lane)
	case "Publish":
		return plainPublish(q, d.claim, d.payload)
	case "Take":
		if len(q.Q) == 0 {
			return told{e: 105}
		}
		return told{queue: text(api.Queue{Lanes: q.Lanes, Q: q.Q[1:]}), msg: q.Q[0]}
	case "Retire":
		return plainRetire(q, d.msg)
	case "Reset":
		return plainReset(q, d.lane)
	case "Ready":
		return told{ok: place(q, d.claim) == 0}
	}
	return told{}
}

func plainClaim(q api.Queue, lane int) told {
	if lane < 0 || lane >= len(q.Lanes) {
		return told{e: 5}
	}
	l := &q.Lanes[lane]
	if l.Left == 0 {
		return told{e: 101}
	}
	if l.Next == last {
		return told{e: 3}
	}
	c := api.Claim{Lane: lane, N: l.Next, Epoch: l.Epoch}
	l.Claims, l.Left, l.Next = append(l.Claims, l.Next), l.Left-1, l.Next+1
	return told{queue: text(q), claim: c}
}

func plainPublish(q api.Queue, c api.Claim, payload uint64) told {
	if c.Lane < 0 || c.Lane >= len(q.Lanes) {
		return told{e: 5}
	}
	k := place(q, c)
	if k < 0 {
		return told{e: 102}
	}
	if k > 0 {
		return told{e: 103}
	}
	q.Lanes[c.Lane].Claims = q.Lanes[c.Lane].Claims[1:]
	q.Q = append(q.Q, api.PlainMsg{Lane: c.Lane, Epoch: c.Epoch, N: c.N, Payload: payload})
	return told{queue: text(q)}
}

func plainRetire(q api.Queue, m api.PlainMsg) told {
	if m.Lane < 0 || m.Lane >= len(q.Lanes) {
		return told{e: 5}
	}
	if m.Epoch == q.Lanes[m.Lane].Epoch {
		if taken(q, m.Lane) == 0 {
			return told{e: 102}
		}
		if q.Lanes[m.Lane].TwoWay {
			q.Lanes[m.Lane].Left++
		}
	}
	return told{queue: text(q)}
}

func plainReset(q api.Queue, lane int) told {
	if lane < 0 || lane >= len(q.Lanes) {
		return told{e: 5}
	}
	l := &q.Lanes[lane]
	if len(l.Claims) > 0 {
		return told{e: 104}
	}
	if l.Epoch == last {
		return told{e: 3}
	}
	l.Left, l.Epoch = l.Credit, l.Epoch+1
	var row []api.PlainMsg
	for _, m := range q.Q {
		if m.Lane != lane {
			row = append(row, m)
		}
	}
	return told{queue: text(api.Queue{Lanes: q.Lanes, Q: row})}
}

// tells does a deed to a queue, fails if it tells otherwise than the chapter's words, and answers what comes of it: with an error, or where no queue is told, the queue that was.
func tells(t testing.TB, q api.Queue, d deed) (api.Queue, told) {
	t.Helper()
	next, got := do(t, q, d)
	if want := plain(q, d); got != want {
		t.Fatalf("%+v of\n%s: %+v, want %+v", d, text(q), got, want)
	}
	if got.e != api.OK || d.kind == "Ready" || d.kind == "Check" {
		return q, got
	}
	return next, got
}

// made is a queue that New made.
func made(t testing.TB, credits []int, twoway []bool) api.Queue {
	t.Helper()
	q, e := queue.New(credits, twoway)
	if e != api.OK {
		t.Fatalf("New(%v, %v) = %v, %d", credits, twoway, q, e)
	}
	return q
}

// dice is a row of numbers that looks like chance, the same one each time.
type dice uint64

// to is a number from 0 to n-1.
func (d *dice) to(n int) int {
	*d += 0x9e3779b97f4a7c15
	z := uint64(*d)
	z = (z ^ z>>30) * 0xbf58476d1ce4e5b9
	z = (z ^ z>>27) * 0x94d049bb133111eb
	return int((z ^ z>>31) % uint64(n))
}

// edges are numbers at which something ends, or begins.
var edges = []int{-1, 0, 1, 2, 15, 16, 17, 63, 64, 65, last - 1, last, last + 1, math.MinInt, math.MaxInt, math.MinInt + 1, math.MaxInt - 1}

// edge is one of them.
func (d *dice) edge() int { return edges[d.to(len(edges))] }

// number is from 0 to the last one, most often small, or near to the last one.
func (d *dice) number() int {
	if d.to(3) == 0 {
		return last - d.to(5)
	}
	return d.to(9)
}

// lanes are credits and ways of so many lanes.
func (d *dice) lanes(count, credit int) (credits []int, twoway []bool) {
	for range count {
		credits, twoway = append(credits, 1+d.to(credit)), append(twoway, d.to(2) == 0)
	}
	return credits, twoway
}

// queue is any that may be, such as no New led to among them.
func (d *dice) queue() api.Queue {
	var q api.Queue
	for i := range d.to(5) {
		l := api.PlainLane{Credit: 1 + d.to(6), TwoWay: d.to(2) == 0, Next: d.number(), Epoch: d.number()}
		l.Left = d.to(l.Credit + 1)
		spent := l.Credit - l.Left
		for n := l.Next - d.to(7); n < l.Next; n++ {
			if n >= 0 && spent > 0 && d.to(2) == 0 {
				l.Claims = append(l.Claims, n)
				spent--
			}
		}
		for spent > 0 && d.to(3) > 0 {
			q.Q = append(q.Q, api.PlainMsg{Lane: i, Epoch: l.Epoch, N: d.edge(), Payload: uint64(d.to(1 << 30))})
			spent--
		}
		q.Lanes = append(q.Lanes, l)
	}
	for i := range q.Q {
		k := d.to(i + 1)
		q.Q[i], q.Q[k] = q.Q[k], q.Q[i]
	}
	return q
}

// lane is most often one of a queue's.
func (d *dice) lane(q api.Queue) int {
	if len(q.Lanes) == 0 || d.to(12) == 0 {
		return d.edge()
	}
	return d.to(len(q.Lanes) + 1)
}

// laneWith is most often a lane of which something holds, if there is one.
func (d *dice) laneWith(q api.Queue, holds func(l api.PlainLane) bool) int {
	var some []int
	for i, l := range q.Lanes {
		if holds(l) {
			some = append(some, i)
		}
	}
	if len(some) == 0 || d.to(8) == 0 {
		return d.lane(q)
	}
	return some[d.to(len(some))]
}

// claim is most often one that is open, the first of its lane above all.
func (d *dice) claim(q api.Queue) api.Claim {
	lane := d.laneWith(q, func(l api.PlainLane) bool { return len(l.Claims) > 0 })
	c := api.Claim{Lane: lane, N: d.edge(), Epoch: d.edge()}
	if c.Lane < 0 || c.Lane >= len(q.Lanes) {
		return c
	}
	l := q.Lanes[c.Lane]
	c.Epoch = l.Epoch
	if d.to(12) == 0 {
		c.Epoch += 1 - 2*d.to(2)
	}
	if len(l.Claims) > 0 && d.to(10) > 0 {
		c.N = l.Claims[d.to(1+d.to(len(l.Claims)))]
	}
	return c
}

// deed is one to a queue, most often one that may be done to it; its message is most often one of those that are handed in.
func (d *dice) deed(q api.Queue, msgs []api.PlainMsg) deed {
	x := deed{kind: kinds[d.to(4)], lane: d.lane(q), claim: d.claim(q), payload: uint64(d.to(1 << 40))}
	if d.to(12) == 0 {
		x.kind = kinds[d.to(len(kinds))]
	}
	if d.to(12) == 0 {
		x.kind, x.lane = "Reset", d.laneWith(q, func(l api.PlainLane) bool { return len(l.Claims) == 0 })
	}
	x.msg = api.PlainMsg{Lane: d.lane(q), Epoch: d.edge(), N: d.edge(), Payload: 5}
	if len(msgs) > 0 && d.to(8) > 0 {
		x.msg = msgs[d.to(len(msgs))]
	}
	return x
}

// follow does so many deeds to a queue, each of which must tell what the chapter's words say.
func follow(t testing.TB, d *dice, q api.Queue, count int) {
	t.Helper()
	msgs := slices.Clone(q.Q)
	for range count {
		next, got := tells(t, q, d.deed(q, msgs))
		if got.msg != (api.PlainMsg{}) {
			msgs = append(msgs[max(0, len(msgs)-6):], got.msg)
		}
		q = next
	}
}
