package wire_test

import (
	"bytes"
	"math"
	"slices"
	"testing"

	"rampart/api"
	"rampart/wire"
)

// want is what the chapter's table asks of a field.
type want int

const (
	zero want = iota
	some      // 1 to 7
	anything
)

// row is one of the chapter's table.
type row struct {
	kind                       api.ReqKind
	a, rights, handle, payload want
}

// table is the chapter's, with the kinds as numbers.
func table() []row {
	return []row{
		{1, anything, some, zero, zero},
		{2, zero, zero, anything, zero},
		{3, zero, zero, anything, anything},
		{4, zero, zero, anything, zero},
		{5, anything, some, anything, zero},
		{6, zero, zero, anything, zero},
		{7, zero, zero, anything, zero},
		{8, anything, zero, zero, anything},
		{9, zero, zero, zero, zero},
	}
}

// meets tells whether a number is what is asked.
func (w want) meets(n uint64) bool {
	switch w {
	case zero:
		return n == 0
	case some:
		return n >= 1 && n <= 7
	}
	return true
}

// plainCheck looks a request up in the table.
func plainCheck(r api.Request) bool {
	for _, x := range table() {
		if x.kind == r.Kind {
			return x.a.meets(uint64(r.A)) && x.rights.meets(uint64(r.Rights)) && x.handle.meets(uint64(r.Handle)) && x.payload.meets(r.Payload)
		}
	}
	return false
}

// plainBytes divides, without shifts and without asking whether the request is well-formed.
func plainBytes(r api.Request) []byte {
	b := []byte{byte(r.Kind), r.A, r.Rights, 0}
	h := uint64(r.Handle)
	for range 4 {
		b = append(b, byte(h%256))
		h /= 256
	}
	p := r.Payload
	for range 8 {
		b = append(b, byte(p%256))
		p /= 256
	}
	return b
}

// someHandles have something in each of their bytes, alone and together.
func someHandles() []uint32 {
	return []uint32{0, 1, 255, 256, 65535, 65536, 1 << 24, 1 << 31, 65793, 0x01020304, math.MaxUint32}
}

// somePayloads have something in each of their bytes, alone and together.
func somePayloads() []uint64 {
	l := []uint64{0, 2, 258, 0x0102030405060708, math.MaxUint64}
	for i := range 8 {
		l = append(l, 1<<(8*i), 0x80<<(8*i))
	}
	return l
}

// someRequests are of all kinds, the nine and all others, well-formed and not.
func someRequests(tell func(api.Request)) {
	for kind := range 256 {
		for _, a := range []uint8{0, 1, 5, 255} {
			for _, rights := range []uint8{0, 1, 2, 3, 4, 5, 6, 7, 8, 9, 16, 128, 255} {
				for _, handle := range someHandles() {
					for _, payload := range []uint64{0, 1, 1 << 63, math.MaxUint64} {
						tell(api.Request{Kind: api.ReqKind(kind), A: a, Rights: rights, Handle: handle, Payload: payload})
					}
				}
			}
		}
	}
}

// goodRequests are well-formed, by the table.
func goodRequests() []api.Request {
	var l []api.Request
	someRequests(func(r api.Request) {
		if plainCheck(r) {
			l = append(l, r)
		}
	})
	for _, p := range somePayloads() {
		l = append(l, api.Request{Kind: 3, Handle: 65793, Payload: p}, api.Request{Kind: 8, A: 9, Payload: p})
	}
	return l
}

// P3.1

func TestCheck(t *testing.T) {
	someRequests(func(r api.Request) {
		e := api.ErrWire
		if plainCheck(r) {
			e = api.OK
		}
		if x := wire.Check(r); x != e {
			t.Errorf("Check(%v) = %d, want %d", r, x, e)
		}
	})
}

// Each field by itself, so that one that is not looked at is told by its name.
func TestCheckFields(t *testing.T) {
	for _, x := range table() {
		base := api.Request{Kind: x.kind}
		if x.rights == some {
			base.Rights = 1
		}
		for n := range 256 {
			r := base
			r.A = uint8(n)
			checkField(t, "A", r, x.a.meets(uint64(n)))
			r = base
			r.Rights = uint8(n)
			checkField(t, "Rights", r, x.rights.meets(uint64(n)))
		}
		for i := range 32 {
			r := base
			r.Handle = 1 << i
			checkField(t, "Handle", r, x.handle != zero)
		}
		for i := range 64 {
			r := base
			r.Payload = 1 << i
			checkField(t, "Payload", r, x.payload != zero)
		}
	}
}

func checkField(t *testing.T, field string, r api.Request, good bool) {
	t.Helper()
	if e := wire.Check(r); (e == api.OK) != good || e != api.OK && e != api.ErrWire {
		t.Errorf("%s: Check(%v) = %d", field, r, e)
	}
}

func TestBytes(t *testing.T) {
	someRequests(func(r api.Request) {
		b, e := wire.Bytes(r)
		if !plainCheck(r) {
			if e != api.ErrWire || len(b) != 0 {
				t.Errorf("Bytes(%v) = %x, %d; want none", r, b, e)
			}
			return
		}
		if e != api.OK || !bytes.Equal(b, plainBytes(r)) {
			t.Errorf("Bytes(%v) = %x, %d; want %x", r, b, e, plainBytes(r))
		}
	})
}

func TestBytesExample(t *testing.T) {
	b, e := wire.Bytes(api.Request{Kind: api.RSend, Handle: 65793, Payload: 2})
	if e != api.OK || !bytes.Equal(b, []byte{3, 0, 0, 0, 1, 1, 1, 0, 2, 0, 0, 0, 0, 0, 0, 0}) {
		t.Errorf("the chapter's example: %x, %d", b, e)
	}
	b, e = wire.Bytes(api.Request{Kind: api.RGrant, A: 0xa1, Rights: 7, Handle: 0x04030201})
	if e != api.OK || !bytes.Equal(b, []byte{5, 0xa1, 7, 0, 1, 2, 3, 4, 0, 0, 0, 0, 0, 0, 0, 0}) {
		t.Errorf("a grant: %x, %d", b, e)
	}
	b, e = wire.Bytes(api.Request{Kind: api.RRelease, A: 15, Payload: 0x0807060504030201})
	if e != api.OK || !bytes.Equal(b, []byte{8, 15, 0, 0, 0, 0, 0, 0, 1, 2, 3, 4, 5, 6, 7, 8}) {
		t.Errorf("a release: %x, %d", b, e)
	}
}

func TestParse(t *testing.T) {
	someRequests(func(r api.Request) {
		x, e := wire.Parse(plainBytes(r))
		if plainCheck(r) && (x != r || e != api.OK) {
			t.Errorf("Parse(%x) = %v, %d; want %v", plainBytes(r), x, e, r)
		}
		if !plainCheck(r) && (x != api.Request{} || e != api.ErrWire) {
			t.Errorf("Parse(%x) = %v, %d; want none", plainBytes(r), x, e)
		}
	})
}

func TestParseByteThatMustBeZero(t *testing.T) {
	for _, x := range table() {
		r := api.Request{Kind: x.kind}
		if x.rights == some {
			r.Rights = 1
		}
		for n := 1; n < 256; n++ {
			b := plainBytes(r)
			b[3] = byte(n)
			if got, e := wire.Parse(b); got != (api.Request{}) || e != api.ErrWire {
				t.Errorf("Parse(%x) = %v, %d", b, got, e)
			}
		}
	}
}

func TestParseLengths(t *testing.T) {
	for _, r := range []api.Request{{Kind: 9}, {Kind: 3, Handle: 1, Payload: 1}, {Kind: 5, A: 1, Rights: 7, Handle: 9}} {
		long := slices.Concat(plainBytes(r), make([]byte, 16), plainBytes(r))
		for n := range len(long) + 1 {
			x, e := wire.Parse(long[:n])
			if n == 16 && (x != r || e != api.OK) {
				t.Errorf("Parse(%x) = %v, %d", long[:n], x, e)
			}
			if n != 16 && (x != api.Request{} || e != api.ErrWire) {
				t.Errorf("Parse of %d bytes = %v, %d", n, x, e)
			}
		}
		if x, e := wire.Parse(long[16:32]); x != (api.Request{}) || e != api.ErrWire {
			t.Errorf("Parse of zeros = %v, %d", x, e)
		}
	}
}

// P3.5

func TestRequestThereAndBack(t *testing.T) {
	for _, r := range goodRequests() {
		b, e := wire.Bytes(r)
		if e != api.OK || len(b) != 16 {
			t.Fatalf("Bytes(%v) = %x, %d", r, b, e)
		}
		if x, e := wire.Parse(b); x != r || e != api.OK {
			t.Errorf("Parse(Bytes(%v)) = %v, %d", r, x, e)
		}
	}
}

// P3.6

func TestRequestOneForm(t *testing.T) {
	for _, r := range goodRequests() {
		b := plainBytes(r)
		for i := range b {
			for _, flip := range []byte{1, 2, 4, 8, 16, 32, 64, 128, 255} {
				c := slices.Clone(b)
				c[i] ^= flip
				if x, e := wire.Parse(c); e == api.OK && !bytes.Equal(plainBytes(x), c) {
					t.Errorf("%x is parsed as %v, which has other bytes", c, x)
				}
			}
		}
	}
}

// Rule 4

func TestRequestsAreNotChangedOrShared(t *testing.T) {
	for _, r := range goodRequests() {
		first, _ := wire.Bytes(r)
		second, _ := wire.Bytes(r)
		clear(second[:cap(second)])
		if !bytes.Equal(first, plainBytes(r)) {
			t.Errorf("Bytes(%v) shares its answer", r)
		}
		room := append(plainBytes(r), 7, 7) // what lies behind a list's end is not ours either
		kept := slices.Clone(room)
		for n := range len(room) + 1 {
			wire.Parse(room[:n])
			wire.ParseReply(room[:n])
		}
		if !bytes.Equal(room, kept) {
			t.Errorf("Parse changes %x to %x", kept, room)
		}
	}
}

// Rules 1 and 4

func TestNilIsEmpty(t *testing.T) {
	for _, b := range [][]byte{nil, {}, make([]byte, 0, 16)} {
		if r, e := wire.Parse(b); r != (api.Request{}) || e != api.ErrWire {
			t.Errorf("Parse of no bytes = %v, %d", r, e)
		}
		if r, e := wire.ParseReply(b); r != (api.Reply{}) || e != api.ErrWire {
			t.Errorf("ParseReply of no bytes = %v, %d", r, e)
		}
		for _, most := range []int{math.MinInt, -1, 0, 1, 9, math.MaxInt} {
			if l := wire.Split(b, most); len(l) != 0 {
				t.Errorf("Split of no bytes, %d = %x", most, l)
			}
		}
	}
}

// FuzzRequest: whatever bytes there are, Parse takes them just if they are those of a well-formed request.
func FuzzRequest(f *testing.F) {
	f.Add([]byte{})
	f.Add(make([]byte, 17))
	for _, x := range table() {
		f.Add(plainBytes(api.Request{Kind: x.kind, Rights: 7, Handle: 65793}))
		f.Add(plainBytes(api.Request{Kind: x.kind, A: 1, Payload: 2}))
	}
	f.Fuzz(func(t *testing.T, b []byte) {
		r, e := wire.Parse(b)
		if e == api.OK && (!plainCheck(r) || !bytes.Equal(plainBytes(r), b)) {
			t.Errorf("Parse(%x) = %v", b, r)
		}
		if e != api.OK && (e != api.ErrWire || r != api.Request{}) {
			t.Errorf("Parse(%x) = %v, %d", b, r, e)
		}
		if e != api.OK && len(b) == 16 && b[3] == 0 {
			var handle, payload uint64
			for i := 7; i >= 0; i-- {
				payload = payload*256 + uint64(b[8+i])
			}
			for i := 3; i >= 0; i-- {
				handle = handle*256 + uint64(b[4+i])
			}
			if plainCheck(api.Request{Kind: api.ReqKind(b[0]), A: b[1], Rights: b[2], Handle: uint32(handle), Payload: payload}) {
				t.Errorf("Parse(%x) = %d", b, e)
			}
		}
	})
}
