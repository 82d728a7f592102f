package order_test

import (
	"testing"

	"rampart/order"
)

// P7.2: all sizes from below 1 to beyond 65536, and ints of all sorts.
func TestSize(t *testing.T) {
	for n, want := range map[int]int{1: 1, 2: 2, 3: 4, 4: 4, 5: 8, 8: 8, 9: 16, 32768: 32768, 32769: 65536, 65535: 65536, 65536: 65536} {
		if size, e := order.Size(n); size != want || e != 0 {
			t.Errorf("Size(%d) = %d, %d", n, size, e)
		}
	}
	for _, n := range []int{-1, 0, 65537, 131072} {
		if size, e := order.Size(n); size != 0 || e != 70 {
			t.Errorf("Size(%d) = %d, %d", n, size, e)
		}
	}
	for n := -70000; n <= 140000; n++ {
		checkSize(t, n)
	}
	for _, n := range someInts() {
		checkSize(t, n)
	}
}

func checkSize(t *testing.T, n int) {
	size, e := order.Size(n)
	if want, f := plainSize(n); size != want || e != f {
		t.Errorf("Size(%d) = %d, %d, want %d, %d", n, size, e, want, f)
	}
}

// P7.2: places of numbers up to 2^64 - 1, in rings of all sizes.
func TestPlace(t *testing.T) {
	for _, c := range []struct {
		x    uint64
		size int
		want int
	}{
		{0, 1, 0}, {9, 1, 0}, {full, 1, 0}, {6, 2, 0}, {7, 2, 1}, {13, 8, 5}, {full, 8, 7}, {full, 65536, 65535},
		{65535, 65536, 65535}, {65536, 65536, 0}, {1<<63 + 5, 65536, 5}, {full - 65536, 65536, 65535}, {1 << 63, 2, 0},
	} {
		if p, e := order.Place(c.x, c.size); p != c.want || e != 0 {
			t.Errorf("Place(%d, %d) = %d, %d", c.x, c.size, p, e)
		}
	}
	for _, x := range someNumbers() {
		for _, size := range append(plainSizes(), someInts()...) {
			checkPlace(t, x, size)
		}
	}
}

// P7.2: sizes that are no ring's, whatever the number.
func TestPlaceWrong(t *testing.T) {
	for _, size := range []int{-1, 0, 3, 6, 65535, 65537, 131072, -8, 1 << 32, 1 << 62, 1<<32 + 8} {
		for _, x := range []uint64{0, 1, full} {
			if p, e := order.Place(x, size); p != 0 || e != 70 {
				t.Errorf("Place(%d, %d) = %d, %d", x, size, p, e)
			}
		}
	}
	for size := -70000; size <= 140000; size++ {
		checkPlace(t, full-2, size)
	}
}

func checkPlace(t *testing.T, x uint64, size int) {
	p, e := order.Place(x, size)
	if want, f := plainPlace(x, size); p != want || e != f {
		t.Errorf("Place(%d, %d) = %d, %d, want %d, %d", x, size, p, e, want, f)
	}
}

// P7.6: as many numbers as a ring's size, one behind the other, have each place once, wherever they begin.
func TestEachPlaceOnce(t *testing.T) {
	for _, size := range plainSizes() {
		for _, start := range []uint64{0, 1, 77777, 1<<63 - 3, full - uint64(size), full - uint64(size)/2, full - 1, full} {
			met := make([]int, size)
			for i := range uint64(size) {
				p, e := order.Place(start+i, size)
				if e != 0 || p < 0 || p >= size {
					t.Fatalf("Place(%d, %d) = %d, %d", start+i, size, p, e)
				}
				met[p]++
			}
			for p, count := range met {
				if count != 1 {
					t.Fatalf("size %d, from %d on: place %d is had %d times", size, start, p, count)
				}
			}
		}
	}
}

// P7.2: what Size answers is a ring's size.
func TestSizesAreRings(t *testing.T) {
	for n := 1; n <= 65536; n++ {
		size, _ := order.Size(n)
		if again, e := order.Size(size); again != size || e != 0 {
			t.Errorf("Size(%d) = %d, %d", size, again, e)
		}
		if p, e := order.Place(uint64(n-1), size); p != n-1 || e != 0 {
			t.Errorf("Place(%d, %d) = %d, %d", n-1, size, p, e)
		}
	}
}
