package queue

import "rampart/api"

// own is a queue with the same things in memory of its own.
func own(q api.Queue) api.Queue {
	lanes := copied(q.Lanes)
	for i := range lanes {
		lanes[i].Claims = copied(lanes[i].Claims)
	}
	return api.Queue{Lanes: lanes, Q: copied(q.Q)}
}

// with is a queue of its own with the same things, but for one lane.
func with(q api.Queue, lane int, l api.PlainLane) api.Queue {
	q = own(q)
	l.Claims = copied(l.Claims)
	q.Lanes[lane] = l
	return q
}

// copied is a row with the same things in memory of its own.
func copied[T any](row []T) []T {
	to := make([]T, len(row))
	copy(to, row)
	return to
}

// longer is a row with one thing more. The row is cut at its end: the room behind it is its owner's, and append must not write there.
func longer[T any](row []T, x T) []T { return append(row[:len(row):len(row)], x) }

// rest is a row without its first thing, cut at its end likewise.
func rest[T any](row []T) []T { return row[1:len(row):len(row)] }
