package conf

import (
	"slices"

	"rampart/api"
	"rampart/bits"
	"rampart/lattice"
)

// settings are api's, with the checks as methods; each check leans on those ahead of it in Check's row.
type settings api.Conf

// Check tells whether settings may be, or else the first fault, and the number of the thing that has it.
func Check(c api.Conf) (int, api.Errno) {
	s := settings(c)
	row := []func() (int, api.Errno){s.policy, s.tenants, s.channels, s.quotas, s.gates, s.frame, s.budget}
	for _, check := range row {
		if n, e := check(); e != api.OK {
			return n, e
		}
	}
	return 0, api.OK
}

// first is the place of the first of a list that has a fault, and that fault.
func first[T any](l []T, fault func(T) api.Errno) (int, api.Errno) {
	for i, x := range l {
		if e := fault(x); e != api.OK {
			return i, e
		}
	}
	return 0, api.OK
}

// isLabel tells whether a number is a label.
func (s settings) isLabel(n int) bool { return isPlace(s.Flows, n) }

// isTenant tells whether a number is a tenant.
func (s settings) isTenant(n int) bool { return isPlace(s.Tenants, n) }

// labelOf is a tenant's label.
func (s settings) labelOf(tenant int) int { return s.Tenants[tenant].Label }

// flows tells whether one label flows to another one.
func (s settings) flows(a, b int) bool { return bits.Has(s.Flows[a], b) }

// policy is the check of the flows.
func (s settings) policy() (int, api.Errno) { return 0, lattice.Check(s.Flows) }

// tenants is the check of the tenants, their lanes left out.
func (s settings) tenants() (int, api.Errno) {
	if len(s.Tenants) > api.MaxTenants {
		return 0, api.ErrMany
	}
	if len(s.Tenants) == 0 {
		return 0, api.ErrTenant
	}
	return first(s.Tenants, s.tenant)
}

// tenant is the check of one tenant.
func (s settings) tenant(t api.Tenant) api.Errno {
	if !s.isLabel(t.Label) || !within(t.Quota, 0, api.MaxQuota) {
		return api.ErrTenant
	}
	return api.OK
}

// channels is the check of the channels.
func (s settings) channels() (int, api.Errno) {
	if len(s.Channels) > api.MaxChannels {
		return 0, api.ErrMany
	}
	return first(s.Channels, s.channel)
}

// channel is the check of one channel. No list is too long for it: in one that is longer than the tenants are many, one stands twice.
func (s settings) channel(ch api.Channel) api.Errno {
	if !s.isLabel(ch.Label) {
		return api.ErrLabel
	}
	for i := range ch.Lanes {
		if e := s.lane(ch, i); e != api.OK {
			return e
		}
	}
	for i := range ch.Receivers {
		if e := s.receiver(ch, i); e != api.OK {
			return e
		}
	}
	return api.OK
}

// lane is the check of a channel's lane.
func (s settings) lane(ch api.Channel, place int) api.Errno {
	l := ch.Lanes[place]
	if !s.isTenant(l.Tenant) || lanePlace(ch.Lanes, l.Tenant) < place || !mayCredit(l.Credit) {
		return api.ErrLane
	}
	if !s.flows(s.labelOf(l.Tenant), ch.Label) {
		return api.ErrFlow
	}
	return api.OK
}

// receiver is the check of a channel's receiver.
func (s settings) receiver(ch api.Channel, place int) api.Errno {
	t := ch.Receivers[place].Tenant
	if !s.isTenant(t) || receiverPlace(ch.Receivers, t) < place {
		return api.ErrReceiver
	}
	if !s.flows(ch.Label, s.labelOf(t)) {
		return api.ErrFlow
	}
	for _, r := range ch.Receivers[:place] {
		if !s.flows(s.labelOf(r.Tenant), s.labelOf(t)) || !s.flows(s.labelOf(t), s.labelOf(r.Tenant)) {
			return api.ErrFlow
		}
	}
	return api.OK
}

// quotas is the check that no tenant may send more at once than it has slots for.
func (s settings) quotas() (int, api.Errno) {
	for i, t := range s.Tenants {
		if Credits(api.Conf(s), i) > t.Quota {
			return i, api.ErrQuota
		}
	}
	return 0, api.OK
}

// gates is the check of the gates.
func (s settings) gates() (int, api.Errno) {
	if len(s.Gates) > api.MaxGates {
		return 0, api.ErrMany
	}
	return first(s.Gates, s.gate)
}

// gate is the check of one gate.
func (s settings) gate(g api.Gate) api.Errno {
	if !s.isTenant(g.From) || !s.isTenant(g.To) || !within(g.Room, 1, api.MaxLog) {
		return api.ErrGate
	}
	return api.OK
}

// frame is the check that each tick is a tenant's, and that each tenant has one.
func (s settings) frame() (int, api.Errno) {
	if len(s.Frame) > api.MaxFrame {
		return 0, api.ErrMany
	}
	if len(s.Frame) == 0 {
		return 0, api.ErrFrame
	}
	for i, t := range s.Frame {
		if !s.isTenant(t) {
			return i, api.ErrFrame
		}
	}
	for t := range s.Tenants {
		if !slices.Contains(s.Frame, t) {
			return t, api.ErrFrame
		}
	}
	return 0, api.OK
}

// budget is the check of what a tick does at most.
func (s settings) budget() (int, api.Errno) {
	if !within(s.Budget, 1, api.MaxBudget) || !within(s.Requests, 1, api.MaxRequests) || !within(s.Pending, 1, api.MaxPending) {
		return 0, api.ErrBudget
	}
	return 0, api.OK
}
