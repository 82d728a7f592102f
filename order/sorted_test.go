package order_test

import (
	"math"
	"slices"
	"testing"

	"rampart/api"
	"rampart/order"
)

// P7.3: none, one, alike ones, sorted, turned and mixed ones.
func TestSorted(t *testing.T) {
	a, b, c, d := api.Stamp{Tick: -1, Step: 9}, api.Stamp{Tick: 2, Step: 1}, api.Stamp{Tick: 2, Step: 9}, api.Stamp{Tick: 3, Step: 1}
	least, most := api.Stamp{Tick: math.MinInt, Step: math.MaxInt}, api.Stamp{Tick: math.MaxInt, Step: math.MinInt}
	for _, x := range []struct{ l, want []api.Stamp }{
		{nil, nil}, {[]api.Stamp{}, nil}, {[]api.Stamp{{}}, []api.Stamp{{}}}, {[]api.Stamp{d}, []api.Stamp{d}},
		{[]api.Stamp{b, b}, []api.Stamp{b}}, {[]api.Stamp{b, b, b, b}, []api.Stamp{b}}, {[]api.Stamp{{}, {}}, []api.Stamp{{}}},
		{[]api.Stamp{a, b, c, d}, []api.Stamp{a, b, c, d}}, {[]api.Stamp{d, c, b, a}, []api.Stamp{a, b, c, d}},
		{[]api.Stamp{c, a, d, b}, []api.Stamp{a, b, c, d}}, {[]api.Stamp{d, c, d}, []api.Stamp{c, d}},
		{[]api.Stamp{c, a, c, b, a, d, b, d}, []api.Stamp{a, b, c, d}},
		{[]api.Stamp{most, a, least, most, d}, []api.Stamp{least, a, d, most}},
	} {
		if got := order.Sorted(x.l...); !slices.Equal(got, x.want) {
			t.Errorf("Sorted(%v) = %v", x.l, got)
		}
	}
	if got := order.Sorted(); len(got) != 0 {
		t.Errorf("Sorted() = %v", got)
	}
}

// P7.3, rule 4: all rows of up to 6 out of 5 stamps; what is handed in stays as it is.
func TestSortedAllRows(t *testing.T) {
	some := []api.Stamp{{Tick: 0, Step: 1}, {Tick: 1, Step: 0}, {}, {Tick: 1, Step: -1}, {Tick: -1, Step: 2}}
	for length, rows := 0, 1; length <= 6; length, rows = length+1, rows*len(some) {
		row := make([]api.Stamp, length)
		for i := range rows {
			for at := range row {
				row[at] = some[i%len(some)]
				i /= len(some)
			}
			checkSorted(t, row)
		}
	}
}

// P7.3: long rows, with few alike ones and with many, mixed, sorted and turned.
func TestSortedLong(t *testing.T) {
	d := dice(73)
	for _, kinds := range []int{2, 9, 40, 1 << 20} {
		for _, length := range []int{11, 13, 40, 100, 1000} {
			row := make([]api.Stamp, length)
			for at := range row {
				row[at] = api.Stamp{Tick: d.to(kinds) - kinds/2, Step: d.to(kinds)}
			}
			checkSorted(t, row)
			slices.SortFunc(row, plainCompare)
			checkSorted(t, row)
			slices.Reverse(row)
			checkSorted(t, row)
		}
	}
	checkSorted(t, someStamps())
}

func checkSorted(t *testing.T, row []api.Stamp) {
	given := slices.Clone(row)
	if got, want := order.Sorted(given...), plainSorted(row); !slices.Equal(got, want) {
		t.Fatalf("Sorted(%v) = %v, want %v", row, got, want)
	}
	if !slices.Equal(given, row) {
		t.Fatalf("Sorted changed %v to %v", row, given)
	}
}

// Rule 4: the answer shares no memory with what was handed in, nor with another answer, even where nothing had to be moved or was alike.
func TestSortedIsNew(t *testing.T) {
	for _, row := range [][]api.Stamp{
		{{Tick: 4}},
		{{Tick: 1}, {Tick: 2}, {Tick: 3}},
		{{Tick: 3}, {Tick: 2}, {Tick: 1}},
		{{Tick: 2}, {Tick: 2}, {Tick: 1}, {Tick: 1}},
	} {
		want := plainSorted(row)
		given := append(slices.Clone(row), api.Stamp{Tick: 77})[:len(row)]
		first, second := order.Sorted(given...), order.Sorted(given...)
		for i := range first {
			first[i] = api.Stamp{Tick: -9, Step: -9}
		}
		_ = append(first, api.Stamp{Tick: -8})
		if !slices.Equal(second, want) || !slices.Equal(given, row) {
			t.Errorf("%v: written to one answer, and there is %v; another one is %v", row, given, second)
		}
		for i := range given {
			given[i] = api.Stamp{Tick: -7}
		}
		if !slices.Equal(second, want) {
			t.Errorf("%v: written to what was handed in, and the answer is %v", row, second)
		}
		if behind := given[:len(row)+1][len(row)]; behind.Tick != 77 {
			t.Errorf("%v: what lies behind is %v", row, behind)
		}
	}
}
