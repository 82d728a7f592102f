package derive

import (
	"math/bits"

	"rampart/api"
)

// marks is a bit for each node that a forest may have.
type marks [api.MaxNodesOf / 64]uint64

// has tells whether a node is marked.
func (m *marks) has(node int) bool { return m[node>>6]>>(node&63)&1 == 1 }

// set marks a node.
func (m *marks) set(node int) { m[node>>6] |= 1 << (node & 63) }

// unset takes a node's mark away.
func (m *marks) unset(node int) { m[node>>6] &^= 1 << (node & 63) }

// count is how many nodes are marked.
func (m *marks) count() int {
	n := 0
	for _, word := range m {
		n += bits.OnesCount64(word)
	}
	return n
}
