package channel

import (
	"rampart/api"
	"rampart/arena"
	"rampart/lane"
)

// sender is a lane, with its settings.
//
// The ring learns of a slot as it is laid, and tells it as it is taken: till then the slots stand here, those of claims by their tickets, those of what is published in the order in which the ring will take them.
type sender struct {
	api.Lane
	ring   *lane.Lane
	claims map[api.Ticket]api.Slot
	sent   []api.Slot
	head   api.Stamp // under which it stands in the channel's agenda, where something is published,
	entry  int       // and as which entry it stood there last
}

// claim claims a message, and a slot of the tenant's partition. Credit is asked for first, so that the slot is never given for nothing.
func (s *sender) claim(a *arena.Arena) (api.Ticket, api.Errno) {
	if s.ring.State().Left == 0 {
		return api.Ticket{}, api.ErrNoRoom
	}
	slot, e := a.Alloc(s.Tenant)
	if e != api.OK {
		return api.Ticket{}, e
	}
	t, e := s.ring.Claim()
	s.claims[t] = slot
	return t, e
}

// publish publishes a message: its slot is no claim's any more.
func (s *sender) publish(t api.Ticket, at api.Stamp) api.Errno {
	if e := s.ring.Publish(t, at); e != api.OK {
		return e
	}
	s.sent = append(s.sent, s.claims[t])
	delete(s.claims, t)
	return api.OK
}

// take takes the first published message, where there is one.
func (s *sender) take() api.Ticket {
	s.sent = s.sent[1:]
	_, t, _ := s.ring.Take()
	return t
}

// reset lets all messages go, and tells their slots. None is claimed then, as the ring refuses a reset while one is.
func (s *sender) reset() ([]api.Slot, api.Errno) {
	slots, e := s.ring.Reset()
	if e == api.OK {
		s.sent = nil
	}
	return slots, e
}
