package channel_test

import (
	"cmp"
	"fmt"
	"math"
	"slices"
	"testing"

	"rampart/api"
	"rampart/arena"
	"rampart/channel"
)

// plainSlot is what chapter 6 says of a slot.
type plainSlot struct {
	part    int
	payload uint64
	gen     uint64
	held    bool
}

// plainArena is what chapter 6 says of an arena: its slots, and the free ones of each partition in a queue.
type plainArena struct {
	slots []plainSlot
	free  [][]int
}

// plainMsg is what the words say of a message.
type plainMsg struct {
	ticket api.Ticket
	state  string
	slot   api.Slot
	laid   bool
	at     api.Stamp
}

// plainLane is what the words say of a lane: all messages that were ever claimed, in that order.
type plainLane struct {
	tenant int
	credit int
	twoway bool
	epoch  uint64
	msgs   []plainMsg
}

// plain is what the chapter's words say of a channel.
type plain struct {
	arena  *plainArena
	lanes  []*plainLane
	takers []int
}

// deed is a call to one of several channels, or, as Alloc and Free, to their arena by somebody else.
type deed struct {
	kind    string
	on      int
	tenant  int
	place   int
	ticket  api.Ticket
	at      api.Stamp
	payload uint64
	slot    api.Slot
}

// told is what a call answers, all of it.
type told struct {
	place   int
	ticket  api.Ticket
	payload uint64
	ok      bool
	slot    api.Slot
	e       api.Errno
}

// newPlainArena is one of so many slots each.
func newPlainArena(quotas []int) *plainArena {
	a := &plainArena{free: make([][]int, len(quotas))}
	for part, size := range quotas {
		for range size {
			a.free[part] = append(a.free[part], len(a.slots))
			a.slots = append(a.slots, plainSlot{part: part})
		}
	}
	return a
}

// alloc is Alloc.
func (a *plainArena) alloc(part int) (api.Slot, api.Errno) {
	if part < 0 || part >= len(a.free) {
		return api.Slot{}, 5
	}
	if len(a.free[part]) == 0 {
		return api.Slot{}, 61
	}
	n := a.free[part][0]
	a.free[part] = a.free[part][1:]
	a.slots[n].held = true
	return api.Slot{N: n, Gen: a.slots[n].gen}, 0
}

// alive is the slot of a name that is alive, else nil.
func (a *plainArena) alive(s api.Slot) *plainSlot {
	if s.N < 0 || s.N >= len(a.slots) || !a.slots[s.N].held || a.slots[s.N].gen != s.Gen {
		return nil
	}
	return &a.slots[s.N]
}

// release is Free.
func (a *plainArena) release(s api.Slot) api.Errno {
	p := a.alive(s)
	if p == nil {
		return 62
	}
	*p = plainSlot{part: p.part, gen: s.Gen + 1}
	a.free[p.part] = append(a.free[p.part], s.N)
	return 0
}

// count is how many messages are in a state.
func (l *plainLane) count(state string) int {
	n := 0
	for _, m := range l.msgs {
		if m.state == state {
			n++
		}
	}
	return n
}

// left is what the messages leave of the credit.
func (l *plainLane) left() int { return l.credit - len(l.msgs) + l.count("gone") }

// stands is the lane's State.
func (l *plainLane) stands() api.LaneState {
	return api.LaneState{Left: l.left(), Claimed: l.count("claimed"), Published: l.count("published"), Taken: l.count("taken"), Held: l.count("held"), Epoch: l.epoch}
}

// in is the message of a ticket that is there and in a state, else nil.
func (l *plainLane) in(t api.Ticket, state string) *plainMsg {
	for i := range l.msgs {
		if m := &l.msgs[i]; m.ticket == t && t.Epoch == l.epoch && m.state == state {
			return m
		}
	}
	return nil
}

// first is the first message in a state, else nil.
func (l *plainLane) first(state string) *plainMsg {
	for i := range l.msgs {
		if l.msgs[i].state == state {
			return &l.msgs[i]
		}
	}
	return nil
}

// ready is the chapter's word.
func (l *plainLane) ready(t api.Ticket) bool {
	m := l.in(t, "claimed")
	return m != nil && m.laid && m == l.first("claimed")
}

// lane is the place of a tenant's lane, or -1.
func (p *plain) lane(tenant int) int {
	return slices.IndexFunc(p.lanes, func(l *plainLane) bool { return l.tenant == tenant })
}

// first is the place of the lane whose first message has the least stamp, or -1.
func (p *plain) first() int {
	best := -1
	for i, l := range p.lanes {
		m := l.first("published")
		if m == nil {
			continue
		}
		if best < 0 || earlier(m.at, p.lanes[best].first("published").at) {
			best = i
		}
	}
	return best
}

// earlier tells whether one stamp is less than another one.
func earlier(a, b api.Stamp) bool {
	return cmp.Or(cmp.Compare(a.Tick, b.Tick), cmp.Compare(a.Step, b.Step)) < 0
}

// do does a deed to a plain channel.
func (p *plain) do(d deed) told {
	switch d.kind {
	case "Claim":
		return p.claim(d)
	case "Take":
		return p.take(d)
	case "Reset":
		return told{e: p.reset(d)}
	case "Alloc":
		s, e := p.arena.alloc(d.tenant)
		return told{slot: s, e: e}
	case "Free":
		return told{e: p.arena.release(d.slot)}
	}
	if d.place < 0 || d.place >= len(p.lanes) {
		if d.kind == "Ready" {
			return told{}
		}
		return told{e: 5}
	}
	l := p.lanes[d.place]
	switch d.kind {
	case "Write":
		return told{e: p.write(l, d)}
	case "Ready":
		return told{ok: l.ready(d.ticket)}
	case "Publish":
		return told{e: l.publish(d)}
	case "Retire":
		return told{e: p.retire(l, d)}
	}
	panic(d.kind)
}

func (p *plain) claim(d deed) told {
	place := p.lane(d.tenant)
	if place < 0 {
		return told{e: 140}
	}
	l := p.lanes[place]
	if l.left() == 0 {
		return told{e: 81}
	}
	s, e := p.arena.alloc(d.tenant)
	if e != 0 {
		return told{e: e}
	}
	t := api.Ticket{Seq: uint64(len(l.msgs)), Epoch: l.epoch}
	l.msgs = append(l.msgs, plainMsg{ticket: t, state: "claimed", slot: s})
	return told{place: place, ticket: t}
}

func (p *plain) write(l *plainLane, d deed) api.Errno {
	m := l.in(d.ticket, "claimed")
	if m == nil {
		return 82
	}
	s := p.arena.alive(m.slot)
	if s == nil {
		return 62
	}
	s.payload, m.laid = d.payload, true
	return 0
}

func (l *plainLane) publish(d deed) api.Errno {
	m := l.in(d.ticket, "claimed")
	if m == nil || !m.laid {
		return 82
	}
	if !l.ready(d.ticket) {
		return 83
	}
	m.state, m.at = "published", d.at
	return 0
}

func (p *plain) take(d deed) told {
	if !slices.Contains(p.takers, d.tenant) {
		return told{e: 141}
	}
	place := p.first()
	if place < 0 {
		return told{e: 142}
	}
	m := p.lanes[place].first("published")
	s := p.arena.alive(m.slot)
	if s == nil {
		return told{e: 62}
	}
	m.state = "taken"
	return told{place: place, ticket: m.ticket, payload: s.payload}
}

func (p *plain) retire(l *plainLane, d deed) api.Errno {
	if d.ticket.Epoch != l.epoch {
		return 0
	}
	m := l.in(d.ticket, "taken")
	if m == nil {
		return 82
	}
	m.state = "held"
	if l.twoway {
		m.state = "gone"
		p.arena.release(m.slot)
	}
	return 0
}

func (p *plain) reset(d deed) api.Errno {
	place := p.lane(d.tenant)
	if place < 0 {
		return 140
	}
	l := p.lanes[place]
	if l.count("claimed") > 0 {
		return 84
	}
	for i := range l.msgs {
		if m := &l.msgs[i]; m.state != "gone" {
			m.state = "gone"
			p.arena.release(m.slot)
		}
	}
	l.epoch++
	return 0
}

// world is channels over one arena, and the plain ones beside them.
type world struct {
	name   string
	arena  *arena.Arena
	made   []*channel.Channel
	plains []*plain
}

// do does a deed to the channel that it names, or to the arena.
func (w *world) do(d deed) (got told) {
	x := w.made[d.on]
	switch d.kind {
	case "Claim":
		got.place, got.ticket, got.e = x.Claim(d.tenant)
	case "Write":
		got.e = x.Write(d.place, d.ticket, d.payload)
	case "Ready":
		got.ok = x.Ready(d.place, d.ticket)
	case "Publish":
		got.e = x.Publish(d.place, d.ticket, d.at)
	case "Take":
		got.place, got.ticket, got.payload, got.e = x.Take(d.tenant)
	case "Retire":
		got.e = x.Retire(d.place, d.ticket)
	case "Reset":
		got.e = x.Reset(d.tenant)
	case "Alloc":
		got.slot, got.e = w.arena.Alloc(d.tenant)
	case "Free":
		got.e = w.arena.Free(d.slot)
	default:
		panic(d.kind)
	}
	return got
}

// wrong tells where a world stands otherwise than its plain one, "" if nowhere.
func (w *world) wrong() string {
	for on, p := range w.plains {
		for _, place := range []int{-1, len(p.lanes), math.MinInt, math.MaxInt} {
			if s, e := w.made[on].State(place); s != (api.LaneState{}) || e != 5 {
				return fmt.Sprintf("channel %d: State(%d) = %+v, %d", on, place, s, e)
			}
		}
		for place, l := range p.lanes {
			if s, e := w.made[on].State(place); s != l.stands() || e != 0 {
				return fmt.Sprintf("channel %d: State(%d) = %+v, %d, want %+v", on, place, s, e, l.stands())
			}
			for _, k := range l.tickets() {
				if got := w.made[on].Ready(place, k); got != l.ready(k) {
					return fmt.Sprintf("channel %d: Ready(%d, %v) = %v", on, place, k, got)
				}
			}
		}
	}
	return w.wrongSlots()
}

// wrongSlots tells where the arena stands otherwise than the plain one.
func (w *world) wrongSlots() string {
	a := w.plains[0].arena
	for n, want := range a.slots {
		payload, gen, held := w.arena.Look(n)
		if payload != want.payload || gen != want.gen || held != want.held {
			return fmt.Sprintf("Look(%d) = %d, %d, %v, want %+v", n, payload, gen, held, want)
		}
	}
	for part := range a.free {
		if _, free, e := w.arena.Counts(part); free != len(a.free[part]) || e != 0 {
			return fmt.Sprintf("Counts(%d): %d are free, want %d", part, free, len(a.free[part]))
		}
	}
	return ""
}

// tickets are the latest that were given, and some that were not.
func (l *plainLane) tickets() []api.Ticket {
	var all []api.Ticket
	for _, m := range l.msgs[max(0, len(l.msgs)-5):] {
		all = append(all, m.ticket, api.Ticket{Seq: m.ticket.Seq, Epoch: m.ticket.Epoch + 1}, api.Ticket{Seq: m.ticket.Seq, Epoch: m.ticket.Epoch - 1})
	}
	for _, m := range l.msgs {
		if m.state == "claimed" {
			all = append(all, m.ticket)
		}
	}
	for _, seq := range []uint64{0, uint64(len(l.msgs)), math.MaxUint64} {
		all = append(all, api.Ticket{Seq: seq, Epoch: l.epoch})
	}
	return all
}

// step does a deed to a world and to its plain one, and tells where they tell or stand otherwise.
func (w *world) step(d deed) (told, string) {
	got, want := w.do(d), w.plains[d.on].do(d)
	if got != want {
		return got, fmt.Sprintf("%+v, want %+v", got, want)
	}
	return got, w.wrong()
}

// row are deeds that were done to a world: the last ones of them as a text, when something is wrong.
type row []deed

// follow does a deed behind those of a row.
func (w *world) follow(t testing.TB, r *row, d deed) told {
	t.Helper()
	*r = append(*r, d)
	got, s := w.step(d)
	if s != "" {
		t.Fatalf("%s: %+v: %s", w.name, (*r)[max(0, len(*r)-12):], s)
	}
	return got
}

// dice is a row of numbers that looks like chance, the same one each time.
type dice uint64

// to is a number from 0 to n-1.
func (d *dice) to(n int) int {
	*d += 0x9e3779b97f4a7c15
	z := uint64(*d)
	z = (z ^ z>>30) * 0xbf58476d1ce4e5b9
	z = (z ^ z>>27) * 0x94d049bb133111eb
	return int((z ^ z>>31) % uint64(n))
}

// pick is one of a list.
func pick[T any](d *dice, l []T) T { return l[d.to(len(l))] }

// ticket is most often one of a message of a lane in a state, else any.
func (d *dice) ticket(l *plainLane, state string) api.Ticket {
	var all []api.Ticket
	for _, m := range l.msgs {
		if m.state == state {
			all = append(all, m.ticket)
		}
	}
	if len(all) == 0 || d.to(10) == 0 {
		all = l.tickets()
	}
	return pick(d, all)
}

// kinds are those of deeds to a channel, the more often the better they can be done.
var kinds = []string{"Claim", "Claim", "Write", "Write", "Publish", "Publish", "Publish", "Take", "Take", "Retire", "Retire", "Ready"}

// deed is one to a world, most often one that may be done to it as it stands. Stamps are small, so that alike ones come up.
func (d *dice) deed(w *world) deed {
	x := deed{kind: pick(d, kinds), on: d.to(len(w.plains)), payload: uint64(d.to(1 << 30)), at: api.Stamp{Tick: d.to(4), Step: d.to(3)}}
	p := w.plains[x.on]
	if d.to(24) == 0 {
		x.kind = "Reset"
	}
	x.tenant = d.to(8) - 2
	if d.to(16) > 0 && x.kind == "Take" && len(p.takers) > 0 {
		x.tenant = pick(d, p.takers)
	} else if d.to(16) > 0 && x.kind != "Take" && len(p.lanes) > 0 {
		x.tenant = pick(d, p.lanes).tenant
	}
	x.place = d.to(len(p.lanes)+1) - d.to(8)/7
	if x.place < 0 || x.place >= len(p.lanes) {
		return x
	}
	l := p.lanes[x.place]
	x.ticket = d.ticket(l, "claimed")
	if x.kind == "Retire" {
		x.ticket = d.ticket(l, "taken")
	}
	if m := l.first("claimed"); m != nil && x.kind != "Retire" && d.to(3) > 0 {
		x.ticket = m.ticket
	}
	return x
}
