package head_test

import (
	"bytes"
	"math/big"
	"math/rand"
	"slices"

	"hailer/api"
)

// This file is a reading of the chapter's words that stands apart: which bytes a header has, with which header bytes begin.

// form is a number's nibble, and its bytes in long form, if it has that.
func form(n uint64) (nibble byte, more []byte) {
	if n < 8 {
		return byte(n), nil
	}
	more = new(big.Int).SetUint64(n).Bytes()
	return byte(7 + len(more)), more
}

// spelt are a header's bytes.
func spelt(h api.FrameHead) []byte {
	k, kid := form(h.Kid)
	c, ctr := form(h.Ctr)
	return slices.Concat([]byte{16*k + c}, kid, ctr)
}

// told is the header with whose bytes b begins, and how many they are; false, if there is none: of all numbers that bytes of b could be the one header whose bytes stand there.
func told(b []byte) (api.FrameHead, int, bool) {
	if len(b) == 0 {
		return api.FrameHead{}, 0, false
	}
	for kid := 0; kid <= min(8, len(b)-1); kid++ {
		for ctr := 0; ctr <= min(8, len(b)-1-kid); ctr++ {
			h := api.FrameHead{Kid: uint64(b[0] / 16), Ctr: uint64(b[0] % 16)}
			if kid > 0 {
				h.Kid = new(big.Int).SetBytes(b[1 : 1+kid]).Uint64()
			}
			if ctr > 0 {
				h.Ctr = new(big.Int).SetBytes(b[1+kid : 1+kid+ctr]).Uint64()
			}
			if want := spelt(h); len(want) == 1+kid+ctr && bytes.HasPrefix(b, want) {
				return h, len(want), true
			}
		}
	}
	return api.FrameHead{}, 0, false
}

// edges are numbers at which a form ends or begins, those beside them, and some that lie between.
func edges() []uint64 {
	l := []uint64{0, 1, 2, 6, 7, 8, 9, 15, 16, 0x0102030405060708, 0x80, 0x8000, 1 << 63, 1<<63 - 1}
	for n := 1; n < 8; n++ {
		at := uint64(1) << (8 * n)
		l = append(l, at-1, at, at+1)
	}
	return append(l, 1<<64-2, 1<<64-1)
}

// headers are all whose numbers are edges.
func headers() (l []api.FrameHead) {
	for _, kid := range edges() {
		for _, ctr := range edges() {
			l = append(l, api.FrameHead{Kid: kid, Ctr: ctr})
		}
	}
	return l
}

// some is a header of numbers of any size: few bytes as often as many.
func some(r *rand.Rand) api.FrameHead {
	return api.FrameHead{Kid: r.Uint64() >> r.Intn(64), Ctr: r.Uint64() >> r.Intn(64)}
}

// other are bytes, of one at least, with some of them otherwise, gone, or more; or as many that are any.
func other(r *rand.Rand, was []byte) []byte {
	b := slices.Clone(was)
	at := r.Intn(len(b))
	switch r.Intn(8) {
	case 0:
		r.Read(b)
	case 1:
		return b[:at]
	case 2:
		return append(b, make([]byte, 1+r.Intn(20))...)
	case 3:
		b[at] = byte(r.Intn(256))
	case 4:
		b[at] ^= 1 << r.Intn(8)
	case 5: // a number that perhaps has another form
		b[at] = byte(r.Intn(10))
	case 6: // another form
		b[0] ^= []byte{0x80, 0x08, 0x10, 0x01}[r.Intn(4)]
	}
	return b
}
