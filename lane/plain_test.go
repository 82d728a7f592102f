package lane_test

import (
	"fmt"
	"math"
	"slices"
	"testing"

	"rampart/api"
	"rampart/lane"
)

// full is the last number ahead of the wrap.
const full = math.MaxUint64

// plainMsg is what the chapter's words say of a message.
type plainMsg struct {
	ticket api.Ticket
	state  string
	slot   api.Slot
	laid   bool
	at     api.Stamp
}

// plain is what the chapter's words say of a lane: all messages that were ever claimed, in that order.
type plain struct {
	twoway bool
	credit int
	left   int
	next   uint64
	epoch  uint64
	msgs   []plainMsg
}

// deed is a call: a ticket, a slot and a stamp, as its kind has them.
type deed struct {
	kind   string
	ticket api.Ticket
	slot   api.Slot
	at     api.Stamp
}

// told is what a call answers, all of it.
type told struct {
	ticket api.Ticket
	slot   api.Slot
	ok     bool
	slots  string
	e      api.Errno
}

// kinds are all deeds that may change a lane.
var kinds = []string{"Claim", "Lay", "Publish", "Take", "Retire", "Reset"}

// do does a deed to a lane.
func do(l *lane.Lane, d deed) (got told) {
	switch d.kind {
	case "Claim":
		got.ticket, got.e = l.Claim()
	case "Lay":
		got.e = l.Lay(d.ticket, d.slot)
	case "Publish":
		got.e = l.Publish(d.ticket, d.at)
	case "Take":
		got.slot, got.ticket, got.e = l.Take()
	case "Retire":
		got.slot, got.ok, got.e = l.Retire(d.ticket)
	case "Reset":
		slots, e := l.Reset()
		got.slots, got.e = text(slots), e
	default:
		panic(d.kind)
	}
	return got
}

// text is a list as a text, the same one for nil and for an empty one.
func text(slots []api.Slot) string {
	if len(slots) == 0 {
		return ""
	}
	return fmt.Sprint(slots)
}

// newPlain is a plain lane.
func newPlain(credit int, twoway bool, start uint64) *plain {
	return &plain{twoway: twoway, credit: credit, left: credit, next: start}
}

// there is the message of a ticket that is there, else nil.
func (p *plain) there(t api.Ticket) *plainMsg {
	for i := range p.msgs {
		m := &p.msgs[i]
		if m.ticket == t && t.Epoch == p.epoch && slices.Contains([]string{"claimed", "published", "taken"}, m.state) {
			return m
		}
	}
	return nil
}

// in is the message of a ticket that is there and in a state, else nil.
func (p *plain) in(t api.Ticket, state string) *plainMsg {
	if m := p.there(t); m != nil && m.state == state {
		return m
	}
	return nil
}

// ready is the chapter's word.
func (p *plain) ready(t api.Ticket) bool {
	m := p.in(t, "claimed")
	if m == nil || !m.laid {
		return false
	}
	for i := range p.msgs {
		if p.msgs[i].ticket == t {
			return true
		}
		if p.msgs[i].state == "claimed" {
			return false
		}
	}
	return false
}

// count is how many messages are in a state.
func (p *plain) count(state string) int {
	n := 0
	for _, m := range p.msgs {
		if m.state == state {
			n++
		}
	}
	return n
}

// first is the published message with the first number, else nil.
func (p *plain) first() *plainMsg {
	for i := range p.msgs {
		if p.msgs[i].state == "published" {
			return &p.msgs[i]
		}
	}
	return nil
}

// do does a deed to a plain lane.
func (p *plain) do(d deed) told {
	switch d.kind {
	case "Claim":
		return p.claim()
	case "Lay":
		m := p.in(d.ticket, "claimed")
		if m == nil {
			return told{e: 82}
		}
		m.slot, m.laid = d.slot, true
	case "Publish":
		m := p.in(d.ticket, "claimed")
		if m == nil || !m.laid {
			return told{e: 82}
		}
		if !p.ready(d.ticket) {
			return told{e: 83}
		}
		m.state, m.at = "published", d.at
	case "Take":
		m := p.first()
		if m == nil {
			return told{e: 82}
		}
		m.state = "taken"
		return told{slot: m.slot, ticket: m.ticket}
	case "Retire":
		return p.retire(d.ticket)
	case "Reset":
		return p.reset()
	}
	return told{}
}

func (p *plain) claim() told {
	if p.left == 0 {
		return told{e: 81}
	}
	t := api.Ticket{Seq: p.next, Epoch: p.epoch}
	p.msgs = append(p.msgs, plainMsg{ticket: t, state: "claimed"})
	p.left--
	p.next++
	return told{ticket: t}
}

func (p *plain) retire(t api.Ticket) told {
	if t.Epoch != p.epoch {
		return told{}
	}
	m := p.in(t, "taken")
	if m == nil {
		return told{e: 82}
	}
	if p.twoway {
		m.state = "gone"
		p.left++
		return told{slot: m.slot, ok: true}
	}
	m.state = "held"
	return told{}
}

func (p *plain) reset() told {
	if p.count("claimed") > 0 {
		return told{e: 84}
	}
	var slots []api.Slot
	for i := range p.msgs {
		if p.msgs[i].state != "gone" {
			slots = append(slots, p.msgs[i].slot)
		}
		p.msgs[i].state = "gone"
	}
	p.left = p.credit
	p.epoch++
	return told{slots: text(slots)}
}

// stands is the plain lane's State.
func (p *plain) stands() api.LaneState {
	return api.LaneState{Left: p.left, Claimed: p.count("claimed"), Published: p.count("published"), Taken: p.count("taken"), Held: p.count("held"), Epoch: p.epoch}
}

// made is a lane that New made.
func made(t testing.TB, credit int, twoway bool, start uint64) *lane.Lane {
	t.Helper()
	l, e := lane.New(credit, twoway, start)
	if l == nil || e != api.OK {
		t.Fatalf("New(%d, %v, %d) = %v, %d", credit, twoway, start, l, e)
	}
	return l
}

// wrong tells where a lane stands otherwise than a plain one, "" if nowhere.
func wrong(l *lane.Lane, p *plain) string {
	if got, want := l.State(), p.stands(); got != want {
		return fmt.Sprintf("State() = %+v, want %+v", got, want)
	}
	at, k, ok := l.First()
	want := plainMsg{}
	if m := p.first(); m != nil {
		want = *m
	}
	if at != want.at || k != want.ticket || ok != (p.first() != nil) {
		return fmt.Sprintf("First() = %v, %v, %v, want %v", at, k, ok, want)
	}
	for _, k := range p.tickets() {
		if got, want := l.Ready(k), p.ready(k); got != want {
			return fmt.Sprintf("Ready(%v) = %v", k, got)
		}
	}
	return ""
}

// tickets are the latest that were given, and some that were not.
func (p *plain) tickets() []api.Ticket {
	var l []api.Ticket
	for _, m := range p.msgs[max(0, len(p.msgs)-9):] {
		l = append(l, m.ticket, api.Ticket{Seq: m.ticket.Seq, Epoch: m.ticket.Epoch + 1}, api.Ticket{Seq: m.ticket.Seq, Epoch: m.ticket.Epoch - 1})
	}
	for _, m := range p.msgs {
		if m.state == "claimed" {
			l = append(l, m.ticket)
		}
	}
	for _, seq := range []uint64{p.next, p.next + 1, p.next - 64, p.next + 64, p.next + 1<<63, 0, full} {
		l = append(l, api.Ticket{Seq: seq, Epoch: p.epoch})
	}
	return l
}

// turn is the ticket of the first claimed message, which is published next; else the zero one.
func (p *plain) turn() api.Ticket {
	for _, m := range p.msgs {
		if m.state == "claimed" {
			return m.ticket
		}
	}
	return api.Ticket{}
}

// follow does deeds to a lane and to a plain one, and fails where they tell or stand otherwise.
func follow(t testing.TB, credit int, twoway bool, start uint64, deeds []deed) {
	t.Helper()
	l, p := made(t, credit, twoway, start), newPlain(credit, twoway, start)
	for i, d := range deeds {
		if got, want := do(l, d), p.do(d); got != want {
			t.Fatalf("New(%d, %v, %d), %v: %+v, want %+v", credit, twoway, start, deeds[max(0, i-20):i+1], got, want)
		}
		if s := wrong(l, p); s != "" {
			t.Fatalf("New(%d, %v, %d), %v: %s", credit, twoway, start, deeds[max(0, i-20):i+1], s)
		}
	}
}

// dice is a row of numbers that looks like chance, the same one each time.
type dice uint64

// to is a number from 0 to n-1.
func (d *dice) to(n int) int {
	*d += 0x9e3779b97f4a7c15
	z := uint64(*d)
	z = (z ^ z>>30) * 0xbf58476d1ce4e5b9
	z = (z ^ z>>27) * 0x94d049bb133111eb
	return int((z ^ z>>31) % uint64(n))
}

// ticket is most often one of a message in a state, else any.
func (d *dice) ticket(p *plain, state string) api.Ticket {
	var l []api.Ticket
	for _, m := range p.msgs {
		if m.state == state {
			l = append(l, m.ticket)
		}
	}
	if len(l) == 0 || d.to(8) == 0 {
		l = p.tickets()
	}
	return l[d.to(len(l))]
}

// deed is one to a plain lane, most often one that may be done to it as it stands.
func (d *dice) deed(p *plain) deed {
	x := deed{kind: kinds[d.to(5)], slot: api.Slot{N: d.to(1 << 20), Gen: uint64(d.to(9))}, at: api.Stamp{Tick: d.to(1 << 20), Step: d.to(16)}}
	if d.to(40) == 0 {
		x.kind = "Reset"
	}
	state := "claimed"
	if x.kind == "Retire" {
		state = "taken"
	}
	x.ticket = d.ticket(p, state)
	if (x.kind == "Lay" || x.kind == "Publish") && d.to(3) > 0 {
		x.ticket = p.turn()
	}
	return x
}

// deeds are so many deeds to such a lane.
func (d *dice) deeds(count, credit int, twoway bool, start uint64) []deed {
	p := newPlain(credit, twoway, start)
	var out []deed
	for range count {
		x := d.deed(p)
		p.do(x)
		out = append(out, x)
	}
	return out
}
