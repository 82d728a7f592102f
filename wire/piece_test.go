package wire_test

import (
	"bytes"
	"math"
	"slices"
	"testing"

	"rampart/api"
	"rampart/wire"
)

// count is n bytes, no two of a piece, or of pieces beside one another, alike.
func count(n int) []byte {
	b := make([]byte, n)
	for i := range b {
		b[i] = byte(i + 1)
	}
	return b
}

// plainSplit tells byte by byte in which piece it lies.
func plainSplit(b []byte, most int) [][]byte {
	var l [][]byte
	for i, x := range b {
		if i/16 >= most {
			break
		}
		if i%16 == 0 {
			l = append(l, nil)
		}
		l[i/16] = append(l[i/16], x)
	}
	return l
}

// somePlaces are below, at, and above all edges of how many pieces there are of at most 100 bytes.
func somePlaces() []int {
	l := []int{math.MinInt, math.MinInt + 1, -1 << 32, -16, -1}
	for i := range 20 {
		l = append(l, i)
	}
	return append(l, 1<<20, 1<<32, 1<<60, math.MaxInt/16, math.MaxInt/16+1, math.MaxInt-1, math.MaxInt)
}

// sameRows tells whether two lists have the same rows.
func sameRows(a, b [][]byte) bool { return slices.EqualFunc(a, b, bytes.Equal) }

// P3.2

func TestSplit(t *testing.T) {
	for n := range 101 {
		for _, most := range somePlaces() {
			b := count(n)
			if l := wire.Split(b, most); !sameRows(l, plainSplit(b, most)) {
				t.Errorf("Split of %d bytes, %d = %x", n, most, l)
			}
		}
	}
}

func TestSplitExample(t *testing.T) {
	b := count(20)
	if l := wire.Split(b, 4); len(l) != 2 || !bytes.Equal(l[0], b[:16]) || !bytes.Equal(l[1], b[16:]) {
		t.Errorf("Split of 20 bytes, 4 = %x", l)
	}
	for _, most := range []int{-1, 0} {
		if l := wire.Split(b, most); len(l) != 0 {
			t.Errorf("Split of 20 bytes, %d = %x", most, l)
		}
	}
	if l := wire.Split(b, 1); len(l) != 1 || !bytes.Equal(l[0], b[:16]) {
		t.Errorf("Split of 20 bytes, 1 = %x", l)
	}
}

func TestSplitLong(t *testing.T) {
	b := count(1<<20 + 5)
	l := wire.Split(b, math.MaxInt)
	if len(l) != 1<<16+1 || len(l[1<<16]) != 5 || !bytes.Equal(bytes.Join(l, nil), b) {
		t.Errorf("Split of 2^20 and 5 bytes: %d pieces", len(l))
	}
}

// P3.7

func TestSplitIsTheBeginning(t *testing.T) {
	for n := range 101 {
		for _, most := range somePlaces() {
			b := count(n)
			l := wire.Split(b, most)
			whole := bytes.Join(l, nil)
			if !bytes.HasPrefix(b, whole) {
				t.Errorf("Split of %d bytes, %d: %x is not their beginning", n, most, whole)
			}
			if most >= (n+15)/16 && len(whole) != n {
				t.Errorf("Split of %d bytes, %d: %d bytes are lost", n, most, n-len(whole))
			}
		}
	}
}

// Rule 4

func TestSplitNothingIsChangedOrShared(t *testing.T) {
	for n := range 70 {
		for _, most := range []int{-1, 0, 1, 2, 9} {
			room := append(count(n), 7, 7) // what lies behind a list's end is not ours either
			kept := slices.Clone(room)
			first := wire.Split(room[:n], most)
			second := wire.Split(room[:n], most)
			for i := range second {
				clear(second[i][:cap(second[i])])
			}
			if !bytes.Equal(room, kept) {
				t.Errorf("Split of %d bytes, %d shares with what it is given", n, most)
			}
			clear(room)
			if !sameRows(first, plainSplit(kept[:n], most)) {
				t.Errorf("Split of %d bytes, %d shares its answer", n, most)
			}
		}
	}
}

func TestSplitPiecesAreApart(t *testing.T) {
	b := count(70)
	for i := range 5 {
		l := wire.Split(b, 9)
		want := plainSplit(b, 9)
		clear(l[i][:cap(l[i])])
		_ = append(l[i], 99, 99, 99)
		clear(want[i])
		if !sameRows(l, want) {
			t.Errorf("what is done to piece %d is done to another one: %x", i, l)
		}
	}
}

// P3.4

// edges are those of the parts, and numbers that would be within if they were cut to 8, 16 or 32 bits.
func edges() []int {
	return []int{math.MinInt, -1 << 32, -65536, -256, -1, 0, 1, 7, 8, 127, 128, 254, 255, 256, 257, 32767, 32768, 65534, 65535, 65536, 65537, 1 << 24, 1 << 31, 1 << 32, 1<<32 + 1, math.MaxInt}
}

func TestHandle(t *testing.T) {
	for _, place := range edges() {
		for _, rights := range edges() {
			for _, generation := range edges() {
				h, e := wire.Handle(place, rights, generation)
				good := place >= 0 && place < 256 && rights >= 0 && rights < 256 && generation >= 0 && generation < 65536
				if good && (e != api.OK || int(h) != place+256*rights+65536*generation) {
					t.Errorf("Handle(%d, %d, %d) = %d, %d", place, rights, generation, h, e)
				}
				if !good && (e != api.ErrWire || h != 0) {
					t.Errorf("Handle(%d, %d, %d) = %d, %d; want none", place, rights, generation, h, e)
				}
			}
		}
	}
}

func TestParts(t *testing.T) {
	for _, h := range moreHandles() {
		place, rights, generation := wire.Parts(h)
		if n := int(h); place != n%256 || rights != n/256%256 || generation != n/65536 {
			t.Errorf("Parts(%d) = %d, %d, %d", h, place, rights, generation)
		}
	}
	if place, rights, generation := wire.Parts(65793); place != 1 || rights != 1 || generation != 1 {
		t.Errorf("the chapter's example: %d, %d, %d", place, rights, generation)
	}
}

// moreHandles are spread over all there are.
func moreHandles() []uint32 {
	l := someHandles()
	for i := range 1 << 16 {
		l = append(l, uint32(i)*2654435761)
	}
	return l
}

// P3.5

func TestHandleThereAndBack(t *testing.T) {
	for _, h := range moreHandles() {
		if x, e := wire.Handle(wire.Parts(h)); x != h || e != api.OK {
			t.Errorf("Handle(Parts(%d)) = %d, %d", h, x, e)
		}
	}
}

// FuzzSplit: whatever bytes and numbers there are, Split's pieces are the plain ones.
func FuzzSplit(f *testing.F) {
	f.Add([]byte{}, 0)
	f.Add(count(40), 2)
	f.Add(count(20), -1)
	f.Fuzz(func(t *testing.T, b []byte, most int) {
		if l := wire.Split(b, most); !sameRows(l, plainSplit(b, most)) {
			t.Errorf("Split(%x, %d) = %x", b, most, l)
		}
	})
}
