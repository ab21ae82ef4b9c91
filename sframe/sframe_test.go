package sframe_test

import (
	"bytes"
	"math"
	"slices"
	"testing"

	"hailer/api"
	"hailer/sframe"
	"hailer/suite"
)

// How many bytes a text and metadata have at most.
const (
	mostPlain = 65536
	mostMeta  = 1024
)

// derived are the keys of a base key.
func derived(t *testing.T, number uint16, base []byte, kid uint64) suite.Keys {
	t.Helper()
	k, e := suite.Derive(number, base, kid)
	if e != api.OK {
		t.Fatal(e)
	}
	return k
}

// P14.1, P14.2: the chapter's examples.
func TestExamples(t *testing.T) {
	f, e := sframe.Seal(derived(t, api.Gcm128, []byte("base"), 5), 7, nil, []byte("abc"))
	if e != api.OK || len(f) != 20 || f[0] != 0x57 {
		t.Errorf("%x, error %d", f, e)
	}
	k := derived(t, api.Ctr32, []byte("base"), 8)
	f, e = sframe.Seal(k, 300, nil, nil)
	if e != api.OK || len(f) != 8 {
		t.Errorf("%x, error %d", f, e)
	}
	shut(t, derived(t, api.Ctr32, []byte("base"), 9), nil, f, api.ErrNone)
	k.Kid = 9
	shut(t, k, nil, f, api.ErrNone)
}

// P14.1, P14.2: published frames (RFC 9605), of the base key 00 .. 0f, the key id 123 and the counter 4567 (to the base 16).
func TestPublished(t *testing.T) {
	base := unhex(t, "000102030405060708090a0b0c0d0e0f")
	meta := unhex(t, "4945544620534672616d65205747")
	plain := unhex(t, "64726166742d696574662d736672616d652d656e63")
	for _, x := range []struct {
		suite uint16
		frame string
	}{
		{api.Ctr80, "9901234567449408b6f490086165b9d6f62b24ae1a59a56486b4ae8ed036b88912e24f11"},
		{api.Gcm128, "9901234567b7412c2513a1b66dbb48841bbaf17f598751176ad847681a69c6d0b091c07018ce4adb34eb"},
	} {
		k, want := derived(t, x.suite, base, 0x123), unhex(t, x.frame)
		if f, e := sframe.Seal(k, 0x4567, meta, plain); e != api.OK || !bytes.Equal(f, want) {
			t.Errorf("suite %d: %x, error %d; not %s", x.suite, f, e, x.frame)
		}
		opens(t, k, meta, want, 0x4567, plain)
	}
}

// P14.1 to P14.3: texts and metadata of many counts of bytes.
func TestLengths(t *testing.T) {
	each(t, func(t *testing.T, r row) {
		k := r.keys(300)
		for n := range 300 {
			r.seals(t, k, uint64(n), nil, drawn(n, n))
			r.seals(t, k, uint64(n), drawn(n, n), nil)
			r.seals(t, k, uint64(n), drawn(n, n), drawn(n, 300-n))
		}
	})
}

// P14.1 to P14.3: as much as there may be; ErrLong of a byte more.
func TestMost(t *testing.T) {
	each(t, func(t *testing.T, r row) {
		k := r.keys(3)
		plain, meta := drawn(1, mostPlain+1), drawn(2, mostMeta+1)
		for _, n := range []int{mostPlain - 16, mostPlain - 1, mostPlain} {
			r.seals(t, k, 1, meta[:mostMeta], plain[:n])
		}
		for _, n := range []int{mostMeta - 1, mostMeta} {
			r.seals(t, k, 2, meta[:n], plain[:40])
		}
		refused(t, k, 3, nil, plain, api.ErrLong)
		refused(t, k, 3, meta, nil, api.ErrLong)
		refused(t, k, 3, meta, plain, api.ErrLong)
		refused(t, k, 3, nil, make([]byte, 1<<20), api.ErrLong)
		refused(t, k, 3, make([]byte, 1<<20), nil, api.ErrLong)
	})
}

// P14.1 to P14.3: key ids and counters at each edge of the header's forms.
func TestNumbers(t *testing.T) {
	each(t, func(t *testing.T, r row) {
		for _, kid := range numbers() {
			k := r.keys(kid)
			for _, ctr := range numbers() {
				r.seals(t, k, ctr, []byte("of"), []byte("a text of two blocks"))
			}
		}
	})
}

// P14.1 to P14.3: texts of none, keys and salts of 0, of all bits.
func TestBytes(t *testing.T) {
	each(t, func(t *testing.T, r row) {
		for _, x := range []byte{0, 255} {
			k := suite.Keys{Suite: r.number, Kid: 1, Key: bytes.Repeat([]byte{x}, r.key), Salt: [12]byte(bytes.Repeat([]byte{x}, 12))}
			for _, plain := range [][]byte{nil, {}, make([]byte, 100), bytes.Repeat([]byte{255}, 100)} {
				for _, ctr := range []uint64{0, math.MaxUint64} {
					r.seals(t, k, ctr, nil, plain)
					r.seals(t, k, ctr, []byte{}, plain)
				}
			}
		}
	})
}

// P14.2: a text of none is opened to none.
func TestNone(t *testing.T) {
	each(t, func(t *testing.T, r row) {
		k := r.keys(8)
		f := r.seals(t, k, 9, []byte("m"), nil)
		if b, ctr, e := sframe.Open(k, []byte("m"), f); len(b) != 0 || ctr != 9 || e != api.OK {
			t.Errorf("%x, %d, error %d", b, ctr, e)
		}
	})
}

// P14.1, P14.2: ErrSuite of keys whose suite is none, ahead of all else.
func TestOtherSuite(t *testing.T) {
	f := rows()[3].seals(t, rows()[3].keys(5), 7, nil, []byte("abc"))
	long, much := make([]byte, mostMeta+1), make([]byte, mostPlain+1)
	for n := range 1 << 16 {
		if n >= 1 && n <= 5 {
			continue
		}
		k := suite.Keys{Suite: uint16(n), Kid: 5, Key: long[:16*(n%4)]}
		refused(t, k, 7, nil, []byte("abc"), api.ErrSuite)
		refused(t, k, 7, long, much, api.ErrSuite)
		shut(t, k, nil, f, api.ErrSuite)
		shut(t, k, long, nil, api.ErrSuite)
	}
	refused(t, suite.Keys{}, 0, nil, nil, api.ErrSuite)
	shut(t, suite.Keys{}, nil, nil, api.ErrSuite)
}

// P14.1, P14.2: ErrArg of a key of any other count of bytes, ahead of all but ErrSuite.
func TestKeyBytes(t *testing.T) {
	long, much := make([]byte, mostMeta+1), make([]byte, mostPlain+1)
	each(t, func(t *testing.T, r row) {
		k := r.keys(5)
		f := r.seals(t, k, 7, nil, []byte("abc"))
		key := append(slices.Clone(k.Key), make([]byte, 60)...)
		for n := range key {
			k.Key = key[:n]
			if n == r.key {
				continue
			}
			refused(t, k, 7, nil, []byte("abc"), api.ErrArg)
			refused(t, k, 7, long, much, api.ErrArg)
			shut(t, k, nil, f, api.ErrArg)
			shut(t, k, long, nil, api.ErrArg)
		}
		k.Key = nil
		refused(t, k, 7, nil, []byte("abc"), api.ErrArg)
		shut(t, k, nil, f, api.ErrArg)
	})
}

// P14.2: ErrLong of the metadata, ahead of what is wrong with the frame.
func TestOpenLongMeta(t *testing.T) {
	each(t, func(t *testing.T, r row) {
		k, long := r.keys(5), make([]byte, mostMeta+1)
		f := r.seals(t, k, 7, long[1:], []byte("abc"))
		other := k
		other.Kid = 6
		shut(t, k, long, f, api.ErrLong)
		shut(t, k, long, nil, api.ErrLong)
		shut(t, k, long, []byte{0x88, 1}, api.ErrLong)
		shut(t, other, long, f, api.ErrLong)
		shut(t, k, make([]byte, 1<<20), f, api.ErrLong)
	})
}

// P14.2: ErrBytes, if the frame begins with no header: none, one cut short, or numbers in another form.
func TestOpenNoHeader(t *testing.T) {
	each(t, func(t *testing.T, r row) {
		for _, kid := range numbers() {
			k, f := r.keys(kid), header(kid, 1<<60)
			for n := range f {
				shut(t, k, nil, f[:n], api.ErrBytes)
			}
		}
		more := make([]byte, 40)
		for _, f := range [][]byte{nil, {}, {0x80, 7}, {0x08, 7}, {0x90, 0, 9}, {0x09, 0, 9}, {0xf0, 0, 1, 1, 1, 1, 1, 1, 1}, {0x88, 5, 9}, {0x88, 9, 5}} {
			shut(t, r.keys(0), nil, f, api.ErrBytes)
			if len(f) > 0 {
				shut(t, r.keys(0), nil, slices.Concat(f, more), api.ErrBytes)
				shut(t, r.keys(0), nil, slices.Concat(f, make([]byte, mostPlain+100)), api.ErrBytes)
			}
		}
	})
}

// P14.2: ErrNone of another Kid, ahead of how many bytes there are, and of the tag.
func TestOpenOtherKid(t *testing.T) {
	each(t, func(t *testing.T, r row) {
		for _, kid := range numbers() {
			k := r.keys(kid)
			f := r.seals(t, k, 7, nil, []byte("abc"))
			for _, other := range append(numbers(), kid^1<<63, kid^1, kid+256) {
				if k.Kid = other; other != kid {
					shut(t, k, nil, f, api.ErrNone)
					shut(t, k, nil, header(kid, 7), api.ErrNone)
					shut(t, k, nil, slices.Concat(f, make([]byte, 70000)), api.ErrNone)
				}
			}
		}
	})
}

// P14.2: ErrLong, if more bytes stand behind the header than a text's and a tag's; ErrTag of as many.
func TestOpenLong(t *testing.T) {
	each(t, func(t *testing.T, r row) {
		k := r.keys(1 << 40)
		f := r.seals(t, k, 1<<20, nil, drawn(7, mostPlain))
		shut(t, k, nil, append(slices.Clone(f), 0), api.ErrLong)
		shut(t, k, nil, append(slices.Clone(f), make([]byte, 1<<20)...), api.ErrLong)
		shut(t, k, nil, turned(f, 8*len(f)-1), api.ErrTag)
		shut(t, k, nil, r.framed(t, k, 2, nil, drawn(8, mostPlain+1)), api.ErrLong)
	})
}

// P14.2: ErrTag, if fewer bytes stand behind the header than the tag's.
func TestOpenShort(t *testing.T) {
	each(t, func(t *testing.T, r row) {
		for _, ctr := range numbers() {
			k := r.keys(300)
			f := r.seals(t, k, ctr, []byte("m"), nil)
			for n := len(header(300, ctr)); n < len(f); n++ {
				shut(t, k, []byte("m"), f[:n], api.ErrTag)
			}
		}
	})
}

// P14.2: ErrTag of frames cut short at any place, and with bytes behind.
func TestOpenCut(t *testing.T) {
	each(t, func(t *testing.T, r row) {
		k := r.keys(7)
		f := r.seals(t, k, 6, []byte("m"), drawn(3, 70))
		for n := 1; n < len(f); n++ {
			shut(t, k, []byte("m"), f[:n], api.ErrTag)
			shut(t, k, []byte("m"), slices.Concat(f[:1], f[n+1:]), api.ErrTag)
		}
		for n := 1; n < 40; n++ {
			shut(t, k, []byte("m"), slices.Concat(f, make([]byte, n)), api.ErrTag)
		}
	})
}

// P14.2: a frame with any bit turned is not opened: ErrTag, if it still begins with a header of that Kid.
func TestOpenTurned(t *testing.T) {
	each(t, func(t *testing.T, r row) {
		k, meta := r.keys(0x123), drawn(4, 20)
		f := r.seals(t, k, 0x4567, meta, drawn(5, 40))
		for bit := 8 * 3; bit < 8*len(f); bit++ {
			shut(t, k, meta, turned(f, bit), api.ErrTag)
		}
		for bit := range 8 * 3 {
			if b, ctr, e := sframe.Open(k, meta, turned(f, bit)); e == api.OK || b != nil || ctr != 0 {
				t.Errorf("bit %d: %x, %d, error %d", bit, b, ctr, e)
			}
		}
	})
}

// P14.2: ErrTag of other metadata: a bit turned, a byte less or more, none.
func TestOpenOtherMeta(t *testing.T) {
	each(t, func(t *testing.T, r row) {
		k, meta := r.keys(5), drawn(6, 33)
		f := r.seals(t, k, 6, meta, []byte("abc"))
		for bit := range 8 * len(meta) {
			shut(t, k, turned(meta, bit), f, api.ErrTag)
		}
		for n := range meta {
			shut(t, k, meta[:n], f, api.ErrTag)
			shut(t, k, meta[n+1:], f, api.ErrTag)
		}
		shut(t, k, append(slices.Clone(meta), 0), f, api.ErrTag)
	})
}

// P14.2: ErrTag by other keys: any bit of the key or the salt turned, or those of another suite.
func TestOpenOtherKeys(t *testing.T) {
	each(t, func(t *testing.T, r row) {
		k := r.keys(5)
		f := r.seals(t, k, 6, []byte("m"), []byte("abc"))
		other := k
		for bit := r.macFrom(); bit < 8*r.key; bit++ {
			other.Key = turned(k.Key, bit)
			shut(t, other, []byte("m"), f, api.ErrTag)
		}
		other = k
		for bit := range 96 {
			other.Salt = [12]byte(turned(k.Salt[:], bit))
			shut(t, other, []byte("m"), f, api.ErrTag)
		}
		for _, o := range rows() {
			if o.number != r.number {
				other = o.keys(5)
				other.Key = append(slices.Clone(k.Key), make([]byte, 48)...)[:o.key]
				other.Salt = k.Salt
				shut(t, other, []byte("m"), f, api.ErrTag)
			}
		}
	})
}

// macFrom is the first bit of the key that the tag hangs on: of a suite of Ctr that of its MAC's part.
func (r row) macFrom() int {
	if r.gcm {
		return 0
	}
	return 8 * r.enc
}

// P14.2: of a suite of Ctr the encryption's part turns the text and nothing else.
func TestCtrParts(t *testing.T) {
	for _, r := range rows()[:3] {
		k := r.keys(5)
		f := r.seals(t, k, 6, []byte("m"), []byte("a text of two blocks"))
		for bit := range 8 * r.enc {
			other := k
			other.Key = turned(k.Key, bit)
			b, ctr, e := sframe.Open(other, []byte("m"), f)
			if e != api.OK || ctr != 6 || len(b) != 20 || string(b) == "a text of two blocks" {
				t.Errorf("bit %d: %q, %d, error %d", bit, b, ctr, e)
			}
		}
	}
}

// P14.1, P14.2: what stands at the aad's end is not the text's beginning, nor the header's end the metadata's beginning.
func TestNoShift(t *testing.T) {
	each(t, func(t *testing.T, r row) {
		k, meta := r.keys(5), drawn(9, 10)
		f := r.seals(t, k, 6, meta, drawn(10, 30))
		for n := 1; n <= len(meta); n++ {
			at := len(meta) - n
			shut(t, k, meta[:at], slices.Concat(f[:1], meta[at:], f[1:]), api.ErrTag)
			shut(t, k, slices.Concat(meta, f[1:1+n]), slices.Concat(f[:1], f[1+n:]), api.ErrTag)
		}
	})
}

// P14.1: a counter's frames are unlike another's.
func TestUnlike(t *testing.T) {
	each(t, func(t *testing.T, r row) {
		seen := map[string]bool{}
		for ctr := range uint64(1000) {
			f := r.seals(t, r.keys(5), ctr, nil, make([]byte, 16))
			behind := string(f[len(header(5, ctr)):])
			if seen[behind] {
				t.Fatalf("the counter %d: %x came", ctr, behind)
			}
			seen[behind] = true
		}
	})
}
