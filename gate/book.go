package gate

import (
	"slices"

	"rampart/api"
	"rampart/audit"
	"rampart/bits"
)

// book keeps logs, with the gates of which they are.
type book struct {
	*audit.Log
	gates []api.Gate
}

// newBook is gates of settings that may be, with empty logs: audit takes as many as those have, and their rooms.
func newBook(gates []api.Gate) book {
	rooms := make([]int, len(gates))
	for i, gate := range gates {
		rooms[i] = gate.Room
	}
	logs, _ := audit.New(rooms...)
	return book{logs, slices.Clone(gates)}
}

// from tells whether there is a gate, and it is a tenant's to release by.
func (b book) from(gate, tenant int) bool {
	return gate >= 0 && gate < len(b.gates) && b.gates[gate].From == tenant
}

// into is the set of the gates to some tenants.
func (b book) into(to uint64) uint64 {
	var l []int
	for i, gate := range b.gates {
		if bits.Has(to, gate.To) {
			l = append(l, i)
		}
	}
	gates, _ := bits.Of(l...) // there are no more gates than members
	return gates
}
