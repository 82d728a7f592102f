package agenda

import "container/heap"

// entry is one of an agenda. It knows its place in the row, so that it is found there by its number alone.
type entry[T any] struct {
	thing  T
	number int
	place  int
}

// row is entries as container/heap lays them, the one that comes first at place 0.
//
// Whenever less is asked, each entry that should be there is, once, and knows its place; less may even change the agenda. What is out of place then is a matter of the order alone.
type row[T any] struct {
	less     func(a, b T) bool
	entries  []*entry[T]
	byNumber map[int]*entry[T]
	last     int
}

// newRow is a row without entries.
func newRow[T any](less func(a, b T) bool) *row[T] {
	return &row[T]{less: less, byNumber: map[int]*entry[T]{}}
}

// enter puts a thing in, under the next number.
func (r *row[T]) enter(x T) int {
	r.last++
	e := &entry[T]{thing: x, number: r.last}
	r.byNumber[e.number] = e
	heap.Push(r, e)
	return e.number
}

// first is the entry that comes first.
func (r *row[T]) first() *entry[T] { return r.entries[0] }

// take takes the entry out that comes first.
func (r *row[T]) take() *entry[T] {
	e := r.first()
	r.leave(e)
	return e
}

// change puts another thing in an entry's place, under its number.
func (r *row[T]) change(e *entry[T], x T) {
	e.thing = x
	heap.Fix(r, e.place)
}

// leave takes an entry out. It does so ahead of all questions to less, as heap.Remove does not: a less that pushes would have another one taken out.
func (r *row[T]) leave(e *entry[T]) {
	gap := e.place
	r.Swap(gap, r.Len()-1)
	r.Pop()
	delete(r.byNumber, e.number)
	if r.has(gap) {
		heap.Fix(r, gap)
	}
}

// Len is how many entries there are.
func (r *row[T]) Len() int { return len(r.entries) }

// Less tells whether the entry at one place comes ahead of that at another one: of alike ones the one with the lesser number. A place may be gone by now, if less took entries out.
func (r *row[T]) Less(i, j int) bool {
	if !r.has(i) || !r.has(j) {
		return false
	}
	a, b := r.entries[i], r.entries[j]
	if a.number < b.number {
		return !r.less(b.thing, a.thing)
	}
	return r.less(a.thing, b.thing)
}

// Swap changes the places of two entries.
func (r *row[T]) Swap(i, j int) {
	if !r.has(i) || !r.has(j) {
		return
	}
	r.entries[i], r.entries[j] = r.entries[j], r.entries[i]
	r.entries[i].place, r.entries[j].place = i, j
}

// Push lays an entry at the end.
func (r *row[T]) Push(x any) {
	e := x.(*entry[T])
	e.place = len(r.entries)
	r.entries = append(r.entries, e)
}

// Pop takes the entry at the end away, and keeps nothing of it.
func (r *row[T]) Pop() any {
	end := len(r.entries) - 1
	e := r.entries[end]
	r.entries[end] = nil
	r.entries = r.entries[:end]
	return e
}

// has tells whether an entry is at that place.
func (r *row[T]) has(place int) bool { return place < len(r.entries) }
