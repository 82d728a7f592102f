package order_test

import (
	"math"
	"math/big"

	"rampart/api"
)

const full = math.MaxUint64

// whole is a number without bound.
func whole(x uint64) *big.Int { return new(big.Int).SetUint64(x) }

// less is to less from, cut to 64 bits without a sign.
func less(to, from uint64) *big.Int {
	d := new(big.Int).Sub(whole(to), whole(from))
	return d.Mod(d, new(big.Int).Lsh(big.NewInt(1), 64))
}

// plainAhead is the distance: what was cut, where its highest bit stands for a sign.
func plainAhead(from, to uint64) int64 {
	d := less(to, from)
	if d.Bit(63) == 1 {
		d.Sub(d, new(big.Int).Lsh(big.NewInt(1), 64))
	}
	return d.Int64()
}

// plainWithin is P7.1's words, in numbers without bound.
func plainWithin(low, x, high uint64) bool { return less(x, low).Cmp(less(high, low)) < 0 }

// plainSizes are all rings' sizes, rising.
func plainSizes() []int {
	return []int{1, 2, 4, 8, 16, 32, 64, 128, 256, 512, 1024, 2048, 4096, 8192, 16384, 32768, 65536}
}

// plainSize goes through all rings' sizes.
func plainSize(n int) (int, api.Errno) {
	for _, size := range plainSizes() {
		if n >= 1 && n <= size {
			return size, 0
		}
	}
	return 0, 70
}

// plainPlace is what is left of a number without bound.
func plainPlace(x uint64, size int) (int, api.Errno) {
	for _, s := range plainSizes() {
		if s == size {
			return int(new(big.Int).Mod(whole(x), big.NewInt(int64(size))).Int64()), 0
		}
	}
	return 0, 70
}

// plainCompare asks for ticks, then for steps.
func plainCompare(a, b api.Stamp) int {
	if c := big.NewInt(int64(a.Tick)).Cmp(big.NewInt(int64(b.Tick))); c != 0 {
		return c
	}
	return big.NewInt(int64(a.Step)).Cmp(big.NewInt(int64(b.Step)))
}

// plainSorted puts each stamp where it stands ahead of a later one, if it is not there yet.
func plainSorted(l []api.Stamp) []api.Stamp {
	var out []api.Stamp
next:
	for _, s := range l {
		for i, o := range out {
			switch plainCompare(s, o) {
			case 0:
				continue next
			case -1:
				out = append(out[:i], append([]api.Stamp{s}, out[i:]...)...)
				continue next
			}
		}
		out = append(out, s)
	}
	return out
}

// plainNumber is P7.4's words, in numbers without bound.
func plainNumber(s api.Stamp, budget int) (uint64, api.Errno) {
	if budget < 1 || budget > 16 || s.Tick < 0 || s.Tick > 1048576 || s.Step < 0 || s.Step > budget-1 {
		return 0, 70
	}
	n := new(big.Int).Mul(big.NewInt(int64(s.Tick)), big.NewInt(int64(budget)))
	return n.Add(n, big.NewInt(int64(s.Step))).Uint64(), 0
}

// plainStamp divides numbers without bound.
func plainStamp(n uint64, budget int) (api.Stamp, api.Errno) {
	if budget < 1 || budget > 16 {
		return api.Stamp{}, 70
	}
	tick, step := new(big.Int).DivMod(whole(n), big.NewInt(int64(budget)), new(big.Int))
	if tick.Cmp(big.NewInt(1048576)) > 0 {
		return api.Stamp{}, 70
	}
	return api.Stamp{Tick: int(tick.Int64()), Step: int(step.Int64())}, 0
}

// dice is a row of numbers that looks like chance, the same one each time.
type dice uint64

// next is the next number of the row, of 64 bits.
func (d *dice) next() uint64 {
	*d += 0x9e3779b97f4a7c15
	z := uint64(*d)
	z = (z ^ z>>30) * 0xbf58476d1ce4e5b9
	z = (z ^ z>>27) * 0x94d049bb133111eb
	return z ^ z>>31
}

// to is a number from 0 to n-1.
func (d *dice) to(n int) int { return int(d.next() % uint64(n)) }

// someNumbers are those around which something turns, and some others.
func someNumbers() []uint64 {
	var l []uint64
	for _, x := range []uint64{0, 1 << 62, 1 << 63, 3 << 62, 1 << 32, 65536, 1<<24 + 16} {
		l = append(l, x-2, x-1, x, x+1, x+2)
	}
	d := dice(7)
	for range 12 {
		l = append(l, d.next())
	}
	return l
}

// someInts are those around which something turns: no few of them are none of what is asked for.
func someInts() []int {
	l := []int{math.MinInt, math.MinInt + 1, math.MaxInt - 1, math.MaxInt, math.MinInt32, math.MaxInt32, 1<<32 + 1, 1<<32 + 8, -1 << 32, 1 << 62, -1 << 62}
	for _, x := range []int{0, 16, 64, 32768, 65536, 131072, 1 << 20, -8, -65536, 1 << 32} {
		l = append(l, x-1, x, x+1)
	}
	return append(l, 2, 3, 4, 5, 6, 8, 12, 24, 100, -2, -3)
}

// someStamps have the greatest and least ints, small ones, and those at the bounds, in all ways.
func someStamps() []api.Stamp {
	var l []api.Stamp
	ints := []int{math.MinInt, math.MinInt + 1, -1 << 32, -2, -1, 0, 1, 2, 15, 16, 1 << 20, 1<<20 + 1, 1 << 32, math.MaxInt - 1, math.MaxInt}
	for _, tick := range ints {
		for _, step := range ints {
			l = append(l, api.Stamp{Tick: tick, Step: step})
		}
	}
	return l
}
