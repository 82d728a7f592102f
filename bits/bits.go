// Package bits is layer 1: sets of at most 64 members as numbers, and relations as rows of them.
package bits

import (
	mathbits "math/bits"
	"slices"

	"rampart/api"
)

// members is how many numbers may be members of a set, and so how many rows a relation has at most.
const members = 64

// grid is a relation's rows while they are worked out: an array, so that the rows handed in are never written to.
type grid [members]uint64

// first is a copy of the first n rows, since what is answered must share nothing with what goes on here.
func (g *grid) first(n int) []uint64 { return slices.Clone(g[:n]) }

// may tells whether a number may be a member.
func may(i int) bool { return i >= 0 && i < members }

// below is the set of all members below n, for n from 0 on: from 64 on nothing is left of the one bit, so that all are there.
func below(n int) uint64 { return 1<<uint(n) - 1 }

// Of is the set of some members.
func Of(l ...int) (uint64, api.Errno) {
	s := uint64(0)
	for _, i := range l {
		if !may(i) {
			return 0, api.ErrBit
		}
		s |= 1 << i
	}
	return s, api.OK
}

// List are a set's members, rising.
func List(s uint64) []int {
	l := make([]int, 0, Size(s))
	for i := range All(s) {
		l = append(l, i)
	}
	return l
}

// All tells a set's members, rising, each time it is ranged over from the first one on.
func All(s uint64) func(yield func(int) bool) {
	return func(yield func(int) bool) {
		if yield == nil { // a caller may call it by hand
			return
		}
		for i := range members {
			if Has(s, i) && !yield(i) {
				return
			}
		}
	}
}

// Has tells whether a set has a member.
func Has(s uint64, i int) bool { return may(i) && s>>i&1 == 1 }

// Size is how many members there are.
func Size(s uint64) int { return mathbits.OnesCount64(s) }

// Rank is how many members are below a number.
func Rank(s uint64, i int) int { return Size(s & below(max(i, 0))) }

// Nth is the member with so many below it.
func Nth(s uint64, k int) (int, bool) {
	for i := range All(s) {
		if Rank(s, i) == k {
			return i, true
		}
	}
	return 0, false
}

// Check tells whether rows are a relation.
func Check(a []uint64) api.Errno {
	if len(a) > members {
		return api.ErrMany
	}
	for _, row := range a {
		if row&^below(len(a)) != 0 {
			return api.ErrBit
		}
	}
	return api.OK
}

// Turn is a relation turned around.
func Turn(a []uint64) ([]uint64, api.Errno) {
	if e := Check(a); e != api.OK {
		return nil, e
	}
	var g grid
	for i, row := range a {
		for j := range All(row) {
			g[j] |= 1 << i
		}
	}
	return g.first(len(a)), api.OK
}

// Then is one relation behind another one.
func Then(a, b []uint64) ([]uint64, api.Errno) {
	if e := Check(a); e != api.OK {
		return nil, e
	}
	if e := Check(b); e != api.OK {
		return nil, e
	}
	if len(a) != len(b) {
		return nil, api.ErrArg
	}
	var g grid
	for i, row := range a {
		for j := range All(row) {
			g[i] |= b[j]
		}
	}
	return g.first(len(a)), api.OK
}

// Closure is the least relation that has a, each member with itself, and is transitive.
func Closure(a []uint64) ([]uint64, api.Errno) {
	if e := Check(a); e != api.OK {
		return nil, e
	}
	var g grid
	for i, row := range a {
		g[i] = row | 1<<i
	}
	// Behind round k each row has all that is come to by way of members up to k; so one round a member is enough.
	for k := range a {
		for i := range a {
			if Has(g[i], k) {
				g[i] |= g[k]
			}
		}
	}
	return g.first(len(a)), api.OK
}

// Reach is all that a member comes to, in any number of steps.
func Reach(a []uint64, i int) (uint64, api.Errno) {
	c, e := Closure(a)
	if e != api.OK {
		return 0, e
	}
	if i < 0 || i >= len(c) {
		return 0, api.ErrRange
	}
	return c[i], api.OK
}
