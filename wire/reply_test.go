package wire_test

import (
	"bytes"
	"slices"
	"testing"

	"rampart/api"
	"rampart/wire"
)

// plainMay goes by the chapter's words, with the codes as numbers.
func plainMay(r api.Reply) bool {
	switch r.Code {
	case 1:
		return true
	case 2, 3, 4:
		return r.A == 0 && r.Handle == 0 && r.Payload == 0
	}
	return false
}

// plainReplyBytes are those of a request that has the reply's code as its kind.
func plainReplyBytes(r api.Reply) []byte {
	return plainBytes(api.Request{Kind: api.ReqKind(r.Code), A: r.A, Handle: r.Handle, Payload: r.Payload})
}

// someReplies are of all codes, the four and all others, with something else and with nothing.
func someReplies() []api.Reply {
	var l []api.Reply
	for code := range 256 {
		for _, a := range []uint8{0, 1, 128, 255} {
			for _, handle := range someHandles() {
				for _, payload := range somePayloads() {
					l = append(l, api.Reply{Code: api.Code(code), A: a, Handle: handle, Payload: payload})
				}
			}
		}
	}
	return l
}

// P3.3

func TestReplyBytes(t *testing.T) {
	for _, r := range someReplies() {
		b, e := wire.ReplyBytes(r)
		if plainMay(r) && (e != api.OK || !bytes.Equal(b, plainReplyBytes(r))) {
			t.Errorf("ReplyBytes(%v) = %x, %d", r, b, e)
		}
		if !plainMay(r) && (e != api.ErrWire || len(b) != 0) {
			t.Errorf("ReplyBytes(%v) = %x, %d; want none", r, b, e)
		}
	}
	b, e := wire.ReplyBytes(api.Reply{Code: api.COK, A: 9, Handle: 0x04030201, Payload: 0x0807060504030201})
	if e != api.OK || !bytes.Equal(b, []byte{1, 9, 0, 0, 1, 2, 3, 4, 1, 2, 3, 4, 5, 6, 7, 8}) {
		t.Errorf("a reply: %x, %d", b, e)
	}
}

func TestReplyFields(t *testing.T) {
	for _, code := range []api.Code{api.CDenied, api.CBusy, api.CEmpty} {
		if b, e := wire.ReplyBytes(api.Reply{Code: code}); e != api.OK || !bytes.Equal(b, append([]byte{byte(code)}, make([]byte, 15)...)) {
			t.Errorf("code %d with nothing else: %x, %d", code, b, e)
		}
		for _, r := range []api.Reply{{Code: code, A: 1}, {Code: code, Handle: 1 << 31}, {Code: code, Payload: 1 << 63}} {
			if b, e := wire.ReplyBytes(r); e != api.ErrWire || len(b) != 0 {
				t.Errorf("ReplyBytes(%v) = %x, %d", r, b, e)
			}
		}
	}
}

func TestParseReply(t *testing.T) {
	for _, r := range someReplies() {
		x, e := wire.ParseReply(plainReplyBytes(r))
		if plainMay(r) && (x != r || e != api.OK) {
			t.Errorf("ParseReply(%x) = %v, %d; want %v", plainReplyBytes(r), x, e, r)
		}
		if !plainMay(r) && (x != api.Reply{} || e != api.ErrWire) {
			t.Errorf("ParseReply(%x) = %v, %d; want none", plainReplyBytes(r), x, e)
		}
	}
}

func TestParseReplyBytesThatMustBeZero(t *testing.T) {
	for _, r := range []api.Reply{{Code: 1}, {Code: 1, A: 7, Handle: 1, Payload: 1}, {Code: 2}, {Code: 3}, {Code: 4}} {
		for _, place := range []int{2, 3} {
			for n := 1; n < 256; n++ {
				b := plainReplyBytes(r)
				b[place] = byte(n)
				if x, e := wire.ParseReply(b); x != (api.Reply{}) || e != api.ErrWire {
					t.Errorf("ParseReply(%x) = %v, %d", b, x, e)
				}
			}
		}
	}
}

func TestParseReplyLengths(t *testing.T) {
	for _, r := range []api.Reply{{Code: 1}, {Code: 1, A: 7, Handle: 1, Payload: 1}, {Code: 2}, {Code: 3}, {Code: 4}} {
		long := slices.Concat(plainReplyBytes(r), make([]byte, 16), plainReplyBytes(r))
		for n := range len(long) + 1 {
			x, e := wire.ParseReply(long[:n])
			if n == 16 && (x != r || e != api.OK) {
				t.Errorf("ParseReply(%x) = %v, %d", long[:n], x, e)
			}
			if n != 16 && (x != api.Reply{} || e != api.ErrWire) {
				t.Errorf("ParseReply of %d bytes = %v, %d", n, x, e)
			}
		}
	}
}

// P3.5

func TestReplyThereAndBack(t *testing.T) {
	for _, r := range someReplies() {
		b, e := wire.ReplyBytes(r)
		if e != api.OK {
			continue // which these are TestReplyBytes tells
		}
		if x, e := wire.ParseReply(b); x != r || e != api.OK || len(b) != 16 {
			t.Errorf("ParseReply(ReplyBytes(%v)) = %v, %d", r, x, e)
		}
	}
}

// P3.6

func TestReplyOneForm(t *testing.T) {
	for _, r := range []api.Reply{{Code: 1}, {Code: 1, A: 255, Handle: 0x01020304, Payload: 0x0102030405060708}, {Code: 2}, {Code: 3}, {Code: 4}} {
		b := plainReplyBytes(r)
		for i := range b {
			for n := range 256 {
				c := slices.Clone(b)
				c[i] = byte(n)
				x, e := wire.ParseReply(c)
				if e == api.OK && !bytes.Equal(plainReplyBytes(x), c) {
					t.Errorf("%x is parsed as %v, which has other bytes", c, x)
				}
			}
		}
	}
}

// Rule 4

func TestRepliesAreNotChangedOrShared(t *testing.T) {
	for _, r := range []api.Reply{{Code: 1, A: 9, Handle: 7, Payload: 258}, {Code: 2}, {Code: 3}, {Code: 4}} {
		first, _ := wire.ReplyBytes(r)
		second, _ := wire.ReplyBytes(r)
		clear(second[:cap(second)])
		if !bytes.Equal(first, plainReplyBytes(r)) {
			t.Errorf("ReplyBytes(%v) shares its answer", r)
		}
		kept := slices.Clone(first)
		wire.ParseReply(first)
		wire.Parse(first)
		if !bytes.Equal(first, kept) {
			t.Errorf("ParseReply changes %x to %x", kept, first)
		}
	}
}

// FuzzReply: whatever bytes there are, ParseReply takes them just if they are those of a reply that may be.
func FuzzReply(f *testing.F) {
	f.Add([]byte{})
	f.Add(make([]byte, 17))
	for code := range 6 {
		f.Add(plainReplyBytes(api.Reply{Code: api.Code(code)}))
		f.Add(plainReplyBytes(api.Reply{Code: api.Code(code), A: 1, Handle: 65793, Payload: 2}))
	}
	f.Fuzz(func(t *testing.T, b []byte) {
		good := len(b) == 16 && b[2] == 0 && b[3] == 0 && (b[0] == 1 || b[0] >= 2 && b[0] <= 4 && bytes.Count(b, []byte{0}) == 15)
		r, e := wire.ParseReply(b)
		if good && (e != api.OK || !bytes.Equal(plainReplyBytes(r), b)) {
			t.Errorf("ParseReply(%x) = %v, %d", b, r, e)
		}
		if !good && (e != api.ErrWire || r != api.Reply{}) {
			t.Errorf("ParseReply(%x) = %v, %d; want none", b, r, e)
		}
	})
}
