package head_test

import (
	"bytes"
	"encoding/hex"
	"math"
	"slices"
	"strings"
	"testing"

	"hailer/api"
	"hailer/head"
)

// of are the bytes that a text to the base 16 tells, blanks left out.
func of(text string) []byte {
	b, err := hex.DecodeString(strings.ReplaceAll(text, " ", ""))
	if err != nil {
		panic(err)
	}
	return b
}

// has tells where the header's bytes are not these, are not so many, or are not taken as it was, nothing or something behind them.
func has(t *testing.T, h api.FrameHead, want []byte) {
	t.Helper()
	if b := head.Put(h); !bytes.Equal(b, want) {
		t.Errorf("%x: put as % x, not % x", h, b, want)
	}
	if n := head.Size(h); n != len(want) {
		t.Errorf("%x: it has %d bytes, not %d", h, n, len(want))
	}
	for _, behind := range []string{"", "\x00", "\x07", "\x08", "\x80", "\xff", strings.Repeat("\x00", 17), strings.Repeat("\xff", 40)} {
		begins(t, append(slices.Clone(want), behind...), h, len(want))
	}
}

// begins tells where another header than this one is taken of b, or another number of bytes.
func begins(t *testing.T, b []byte, h api.FrameHead, used int) {
	t.Helper()
	if got, n, e := head.Take(b); e != api.OK || got != h || n != used {
		t.Errorf("% x: taken as %x of %d bytes, error %d; not %x of %d", first(b), got, n, e, h, used)
	}
}

// none tells where b begins with a header.
func none(t *testing.T, b []byte) {
	t.Helper()
	if h, n, e := head.Take(b); e != api.ErrBytes || n != 0 || h != (api.FrameHead{}) {
		t.Errorf("% x: taken as %x of %d bytes, error %d; not zero, ErrBytes", first(b), h, n, e)
	}
}

// apart tells where one header's bytes are the beginning of the other one's.
func apart(t *testing.T, one, two api.FrameHead) {
	t.Helper()
	if a, b := head.Put(one), head.Put(two); bytes.HasPrefix(b, a) {
		t.Errorf("%x: % x is the beginning of % x, of %x", one, a, b, two)
	}
}

// first are the first bytes, of many.
func first(b []byte) []byte { return b[:min(len(b), 40)] }

// as tells where b is not taken as the reading of the chapter's words that stands apart has it, and whether there is a header.
func as(t *testing.T, b []byte) bool {
	t.Helper()
	h, used, is := told(b)
	if !is {
		none(t, b)
		return false
	}
	begins(t, b, h, used)
	if again := head.Put(h); !bytes.Equal(again, b[:used]) {
		t.Errorf("% x: put again as % x", b[:used], again)
	}
	return true
}

// P12.1, P12.2: the chapter's examples.
func TestExamples(t *testing.T) {
	has(t, api.FrameHead{Kid: 5, Ctr: 7}, of("57"))
	has(t, api.FrameHead{Kid: 8, Ctr: 0}, of("80 08"))
	has(t, api.FrameHead{Kid: 256, Ctr: 65535}, of("99 01 00 ff ff"))
	has(t, api.FrameHead{Kid: math.MaxUint64, Ctr: 0}, of("f0 ff ff ff ff ff ff ff ff"))
	for _, text := range []string{"80 07", "98 01 00", "90 00 08", "80"} {
		none(t, of(text))
	}
}

// P12.1, P12.2: headers with their bytes written out, counters of each count of bytes among them.
func TestWrittenOut(t *testing.T) {
	for _, c := range []struct {
		kid, ctr uint64
		want     string
	}{
		{0, 0, "00"},
		{0, 1, "01"},
		{0, 0xff, "08ff"},
		{0, 0x100, "090100"},
		{0, 0xffff, "09ffff"},
		{0, 0x10000, "0a010000"},
		{0, 0xffffff, "0affffff"},
		{0, 0x1000000, "0b01000000"},
		{0, 0xffffffff, "0bffffffff"},
		{0, 0x100000000, "0c0100000000"},
		{0, 0xffffffffff, "0cffffffffff"},
		{0, 0x10000000000, "0d010000000000"},
		{0, 0xffffffffffff, "0dffffffffffff"},
		{0, 0x1000000000000, "0e01000000000000"},
		{0, 0xffffffffffffff, "0effffffffffffff"},
		{0, 0x100000000000000, "0f0100000000000000"},
		{0, 0xffffffffffffffff, "0fffffffffffffffff"},
		{1, 0, "10"},
		{1, 1, "11"},
		{1, 0xff, "18ff"},
		{0xff, 0, "80ff"},
		{0xff, 1, "81ff"},
		{0xff, 0xff, "88ffff"},
		{0xff, 0x100, "89ff0100"},
		{0x100, 0, "900100"},
		{0x100, 0xff, "980100ff"},
		{0x123, 0x4567, "9901234567"},
		{0xffffffffffffffff, 0xffffffffffffffff, "ffffffffffffffffffffffffffffffffff"},
	} {
		has(t, api.FrameHead{Kid: c.kid, Ctr: c.ctr}, of(c.want))
	}
}

// P12.1: bytes stand where the chapter lays them, the highest first, Kid's ahead of Ctr's.
func TestPlaces(t *testing.T) {
	const kid, ctr = 0x1112131415161718, 0x2122232425262728
	const kids, ctrs = "1112131415161718", "2122232425262728"
	for k := 1; k <= 8; k++ {
		for c := 1; c <= 8; c++ {
			h := api.FrameHead{Kid: kid >> (64 - 8*k), Ctr: ctr >> (64 - 8*c)}
			both := append(of(kids[:2*k]), of(ctrs[:2*c])...)
			has(t, h, append([]byte{byte(0x80+16*(k-1)) | byte(8+c-1)}, both...))
		}
	}
}

// P12.1: each number below 8 is in short form, and each other one in a form of as few bytes as there must be, on both sides.
func TestForms(t *testing.T) {
	for n := range uint64(1 << 17) {
		want, size := []byte{byte(n)}, 1
		switch {
		case n >= 1<<16:
			want, size = []byte{10, byte(n >> 16), byte(n >> 8), byte(n)}, 4
		case n >= 1<<8:
			want, size = []byte{9, byte(n >> 8), byte(n)}, 3
		case n >= 8:
			want, size = []byte{8, byte(n)}, 2
		}
		if b := head.Put(api.FrameHead{Ctr: n}); !bytes.Equal(b, want) || head.Size(api.FrameHead{Ctr: n}) != size {
			t.Fatalf("the counter %d is put as % x", n, b)
		}
		want[0] *= 16
		if b := head.Put(api.FrameHead{Kid: n}); !bytes.Equal(b, want) || head.Size(api.FrameHead{Kid: n}) != size {
			t.Fatalf("the key id %d is put as % x", n, b)
		}
		begins(t, want, api.FrameHead{Kid: n}, size)
	}
}

// P12.1, P12.3: a header of numbers at any two edges has the bytes that the chapter's words have, and is taken as it was, whatever stands behind.
func TestEdges(t *testing.T) {
	for _, h := range headers() {
		has(t, h, spelt(h))
	}
}

// P12.1: no header has more than MaxHead bytes, and one has as many.
func TestMaxHead(t *testing.T) {
	most := 0
	for _, h := range headers() {
		most = max(most, head.Size(h))
	}
	if head.MaxHead != 17 || most != 17 {
		t.Errorf("of at most %d bytes, one has %d", head.MaxHead, most)
	}
}

// P12.2: a number in a form that is not its own is none: short ones in long form, and long ones of more bytes than there must be, on either side.
func TestOtherForms(t *testing.T) {
	for _, n := range edges() {
		nibble, more := form(n)
		if more == nil {
			nibble, more = 7, []byte{byte(n)}
		} else {
			more = append([]byte{0}, more...)
		}
		for nibble++; nibble < 16; nibble++ {
			for other := range byte(8) {
				none(t, append([]byte{16*nibble + other}, more...))
				none(t, append([]byte{16*other + nibble}, more...))
			}
			none(t, slices.Concat([]byte{16*nibble + 8, 0}, more, []byte{8}))
			none(t, slices.Concat([]byte{16*nibble + 8}, more, []byte{8}))
			none(t, slices.Concat([]byte{0x80 + nibble, 8}, more))
			more = append([]byte{0}, more...)
		}
	}
	for n := range byte(8) {
		none(t, []byte{0x80, n})
		none(t, []byte{0x08, n})
		none(t, []byte{0x88, n, 8})
		none(t, []byte{0x88, 8, n})
		begins(t, []byte{0x88, 8, 8, n}, api.FrameHead{Kid: 8, Ctr: 8}, 3)
	}
}

// P12.2, P12.3: a header's bytes cut short at any place are none's.
func TestCut(t *testing.T) {
	none(t, nil)
	none(t, []byte{})
	for _, h := range headers() {
		b := spelt(h)
		for n := range b {
			none(t, b[:n])
			none(t, slices.Clip(b[:n]))
		}
	}
}

// P12.2: whatever two bytes stand first, and whatever one stands alone, they are taken as the chapter's words have it, with some bytes behind and with none.
func TestFirstBytes(t *testing.T) {
	for a := range 256 {
		as(t, []byte{byte(a)})
		for b := range 256 {
			two := []byte{byte(a), byte(b)}
			as(t, two)
			for _, behind := range []string{"\x00", "\x08", "\x00\x09", "\x07\x00\x00", "\x00\x01\x00\x00\x00\x00\x00\x00", "\x01\x00\x00\x00\x00\x00\x00\x00\x09\xff\x00\x00\x00\x00\x00\x00"} {
				as(t, append(slices.Clone(two), behind...))
			}
		}
	}
}

// P12.3: no two headers have the same bytes, and no one's are the beginning of another one's.
func TestNoBeginning(t *testing.T) {
	var l []string
	seen := map[api.FrameHead]bool{}
	for _, h := range headers() {
		if !seen[h] {
			l = append(l, string(head.Put(h)))
		}
		seen[h] = true
	}
	slices.Sort(l)
	for i := range l[1:] { // whose beginning is a text, they stand behind it, the first of them next to it
		if strings.HasPrefix(l[i+1], l[i]) {
			t.Errorf("% x is the beginning of % x", l[i], l[i+1])
		}
	}
}

// P12.2: of many bytes those of the header alone are taken.
func TestMany(t *testing.T) {
	for _, h := range []api.FrameHead{{}, {Kid: 8}, {Kid: math.MaxUint64, Ctr: math.MaxUint64}} {
		begins(t, append(spelt(h), make([]byte, 1<<20)...), h, len(spelt(h)))
	}
	none(t, append([]byte{0xff}, make([]byte, 1<<20)...))
}

// P12.1, R3: what Put answers is in memory of its own, and what is handed in to Take is not changed, nor what stands behind it.
func TestMemory(t *testing.T) {
	h := api.FrameHead{Kid: 0x1234, Ctr: 0x567890}
	one, two := head.Put(h), head.Put(h)
	clear(one)
	_ = append(one, "what is written behind the first one"...)
	if !bytes.Equal(two, spelt(h)) {
		t.Errorf("put twice, and the first written over: % x", two)
	}
	b := append(spelt(h), "what stands behind"...)
	was := slices.Clone(b)
	for n := range len(b) + 1 {
		head.Take(b[:n])
		if !bytes.Equal(b, was) {
			t.Fatalf("the first %d bytes, handed in, are otherwise", n)
		}
	}
}

// R5: what was put or taken ahead, or failed, is nothing to what comes then.
func TestApart(t *testing.T) {
	for range 3 {
		head.Take(of("ff ff ff"))
		has(t, api.FrameHead{}, of("00"))
		has(t, api.FrameHead{Kid: 8, Ctr: 9}, of("88 08 09"))
	}
}
