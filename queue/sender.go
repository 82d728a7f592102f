package queue

import "rampart/api"

// sender is a lane, and how many messages of it lie in its queue.
type sender struct {
	api.PlainLane
	queued int
}

// senders are the lanes of a queue that may be.
func senders(q api.Queue) ([]sender, api.Errno) {
	if len(q.Lanes) > api.MaxTenants {
		return nil, api.ErrQueue
	}
	all := make([]sender, len(q.Lanes))
	for i, l := range q.Lanes {
		all[i].PlainLane = l
	}
	for _, m := range q.Q {
		if !has(q, m.Lane) || m.Epoch != q.Lanes[m.Lane].Epoch {
			return nil, api.ErrQueue
		}
		all[m.Lane].queued++
	}
	for _, s := range all {
		if !s.mayBe() {
			return nil, api.ErrQueue
		}
	}
	return all, api.OK
}

// mayBe tells whether all holds of a sender that must.
func (s sender) mayBe() bool {
	for _, holds := range rules() {
		if !holds(s) {
			return false
		}
	}
	return true
}

// rules are what must hold of a sender. What bounds a number stands ahead of what reckons with it.
func rules() []func(sender) bool {
	return []func(sender) bool{sender.hasCredit, sender.hasNumbers, sender.isCovered, sender.rises}
}

// hasCredit tells whether the credit, and what is left of it, may be.
func (s sender) hasCredit() bool {
	return within(s.Credit, 1, api.MaxCredit) && within(s.Left, 0, s.Credit)
}

// hasNumbers tells whether the next claim's number and the epoch may be.
func (s sender) hasNumbers() bool {
	return within(s.Next, 0, api.MaxClaims) && within(s.Epoch, 0, api.MaxClaims)
}

// isCovered tells whether the credit that is spent covers the claims and the messages.
func (s sender) isCovered() bool { return s.taken() >= 0 }

// rises tells whether the claims rise, from 0 on, to the next one.
func (s sender) rises() bool {
	least := 0
	for _, n := range s.Claims {
		if !within(n, least, s.Next-1) {
			return false
		}
		least = n + 1
	}
	return true
}

// taken is how many messages were taken and gave no credit back. It is not kept, so that it can't stand otherwise than all else does.
func (s sender) taken() int { return s.Credit - s.Left - len(s.Claims) - s.queued }

// within tells whether a number is from the least one to the last one.
func within(n, least, last int) bool { return n >= least && n <= last }
