package audit

import (
	"sort"

	"rampart/agenda"
	"rampart/api"
	"rampart/bits"
	"rampart/order"
)

// log is a gate's: its records, and how many it takes in all.
type log struct {
	room    int
	records row
}

// row is records in order. Those that are compared have one at least.
type row []api.Record

// set is gates whose records are asked for, and moment a stamp up to which they are: types of this package, so that they may have methods.
type (
	set    uint64
	moment api.Stamp
)

// left is how many records more a log takes.
func (g *log) left() int { return g.room - len(g.records) }

// add logs a record that comes in order.
func (g *log) add(r api.Record) api.Errno {
	if g.left() == 0 {
		return api.ErrLogged
	}
	g.records = append(g.records, r)
	return api.OK
}

// compare tells which row's first record stands first.
func (r row) compare(other row) int { return order.Compare(r[0].Stamp, other[0].Stamp) }

// sooner tells whether a row's first record comes ahead of that of another one.
func (r row) sooner(other row) bool { return r.compare(other) < 0 }

// part is all of a gate's records, or none.
func (s set) part(gate int, all row) row {
	if !bits.Has(uint64(s), gate) {
		return nil
	}
	return all
}

// part is the records up to a moment, whichever gate's.
func (m moment) part(_ int, all row) row {
	return all[:sort.Search(len(all), func(i int) bool { return m.passed(all[i]) })]
}

// passed tells whether a record stands behind a moment.
func (m moment) passed(r api.Record) bool { return order.Compare(api.Stamp(m), r.Stamp) < 0 }

// end is the last one of a gate's records, where there is one.
func end(_ int, all row) row { return all[max(0, len(all)-1):] }

// merged are the records of some rows, in order. A row goes back to the agenda with what is left of it while the agenda is drained.
func merged(rows []row) []api.Record {
	next := agenda.New(row.sooner)
	for _, r := range rows {
		next.Push(r)
	}
	var all []api.Record
	for r := range next.Drain() {
		all = append(all, r[0])
		if len(r) > 1 {
			next.Push(r[1:])
		}
	}
	return all
}
