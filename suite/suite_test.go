package suite_test

import (
	"bytes"
	"encoding/hex"
	"fmt"
	"math"
	"math/rand"
	"slices"
	"testing"

	"hailer/api"
	"hailer/suite"
)

// unhex are the bytes written so, to the base 16.
func unhex(t *testing.T, s string) []byte {
	t.Helper()
	b, err := hex.DecodeString(s)
	if err != nil {
		t.Fatal(err)
	}
	return b
}

// P13.1: what the table tells, of each suite, by its number and by its name.
func TestOf(t *testing.T) {
	names := []uint16{api.Ctr80, api.Ctr64, api.Ctr32, api.Gcm128, api.Gcm256}
	for i, r := range rows() {
		if info, e := suite.Of(r.number); e != api.OK || info != r.info {
			t.Errorf("%s: %v, error %d; not %v", r.name, info, e, r.info)
		}
		if names[i] != r.number {
			t.Errorf("%s is %d, not %d", r.name, names[i], r.number)
		}
	}
}

// P13.1: any other number is no suite; 0 and 6 are the chapter's examples.
func TestOfOther(t *testing.T) {
	eachOther(func(number uint16) {
		if info, e := suite.Of(number); e != api.ErrSuite || info != (suite.Info{}) {
			t.Errorf("%d: %v, error %d; not zero, ErrSuite", number, info, e)
		}
	})
}

// P13.2, P13.3: published keys and salts (RFC 9605), of each suite: of the base key 00 .. 0f, the key id 123 and the counter 4567 (to the base 16). The nonces of suites 2 and 3 are worked out by hand of their salts.
func TestPublished(t *testing.T) {
	base := unhex(t, "000102030405060708090a0b0c0d0e0f")
	for _, x := range []struct {
		suite            uint16
		key, salt, nonce string
	}{
		{1, "3f7d9a7c83ae8e1c8a11ae695ab59314b367e359fadac7b9c46b2bc6f81f46e16b96f0811868d59402b7e870102720b3", "50b29329a04dc0f184ac3168", "50b29329a04dc0f184ac740f"},
		{2, "e2ec5c797540310483b16bf6e7a570d2a27d192fe869c7ccd8584a8d9dab91549fbe553f5113461ec6aa83bf3865553e", "e68ac8dd3d02fbcd368c5577", "e68ac8dd3d02fbcd368c1010"},
		{3, "2c5703089cbb8c583475e4fc461d97d18809df79b6d550f78eb6d50ffa80d89211d57909934f46f5405e38cd583c69fe", "38c16e4f5159700c00c7f350", "38c16e4f5159700c00c7b637"},
		{4, "d34f547f4ca4f9a7447006fe7fcbf768", "75234edefe07819026751816", "75234edefe07819026755d71"},
		{5, "d3e27b0d4a5ae9e55df01a70e6d4d28d969b246e2936f4b7a5d9b494da6b9633", "84991c167b8cd23c93708ec7", "84991c167b8cd23c9370cba0"},
	} {
		want := suite.Keys{Suite: x.suite, Kid: 0x123, Key: unhex(t, x.key), Salt: [12]byte(unhex(t, x.salt))}
		k, e := suite.Derive(x.suite, base, 0x123)
		if e != api.OK || !same(k, want) {
			t.Errorf("suite %d: %x, error %d; not %x", x.suite, k, e, want)
		}
		if n := k.Nonce(0x4567); n != [12]byte(unhex(t, x.nonce)) {
			t.Errorf("suite %d: the nonce %x, not %s", x.suite, n, x.nonce)
		}
	}
}

// P13.2: base keys of each count of bytes that may be, and the one behind each.
func TestBaseLengths(t *testing.T) {
	each(t, func(t *testing.T, r row) {
		for n := 1; n <= 1024; n++ {
			r.derives(t, drawn(n), uint64(n))
			r.goesOn(t, drawn(n))
		}
	})
}

// P13.2: base keys whose bytes are 0, or end by 0, or are all alike, are such as others.
func TestBaseBytes(t *testing.T) {
	each(t, func(t *testing.T, r row) {
		for _, n := range []int{1, 2, 16, 32, 63, 64, 65, 127, 128, 129, 1023, 1024} {
			for _, base := range [][]byte{make([]byte, n), bytes.Repeat([]byte{0xff}, n), append(drawn(n - 1)[:n-1:n-1], 0)} {
				r.derives(t, base, 8)
				r.goesOn(t, base)
			}
		}
	})
}

// P13.2: key ids with each bit, and at each byte's edge.
func TestKids(t *testing.T) {
	each(t, func(t *testing.T, r row) {
		for _, kid := range numbers() {
			r.derives(t, drawn(16), kid)
		}
	})
}

// P13.2: ErrArg of a base key without a byte, or with more than 1024.
func TestBaseOutOfBounds(t *testing.T) {
	each(t, func(t *testing.T, r row) {
		for _, kid := range []uint64{0, 1, math.MaxUint64} {
			fails(t, r.number, nil, kid, api.ErrArg)
			fails(t, r.number, []byte{}, kid, api.ErrArg)
			fails(t, r.number, drawn(16)[:0], kid, api.ErrArg)
			for _, n := range []int{1025, 1026, 1088, 2048, 4096, 65536, 65537, 1 << 20} {
				fails(t, r.number, drawn(n), kid, api.ErrArg)
			}
		}
	})
}

// P13.2: ErrSuite of any other number, ahead of what is wrong with the base key.
func TestOtherSuites(t *testing.T) {
	bases := [][]byte{nil, {}, drawn(1), drawn(16), drawn(1024), drawn(1025)}
	eachOther(func(number uint16) {
		for _, base := range bases {
			fails(t, number, base, 7, api.ErrSuite)
		}
	})
}

// P13.2: random base keys and key ids.
func TestRandom(t *testing.T) {
	each(t, func(t *testing.T, r row) {
		draw := rand.New(rand.NewSource(int64(r.number)))
		for range 500 {
			base := make([]byte, 1+draw.Intn(1024)>>draw.Intn(8))
			draw.Read(base)
			r.derives(t, base, draw.Uint64()>>draw.Intn(64))
			r.goesOn(t, base)
		}
	})
}

// P13.2: the key behind one is a base key itself, and that behind it another, so far as one goes.
func TestBehindOn(t *testing.T) {
	each(t, func(t *testing.T, r row) {
		base := drawn(16)
		seen := map[string]bool{string(base): true}
		for range 100 {
			r.goesOn(t, base)
			next, _ := suite.Behind(r.number, base)
			if len(next) != r.info.Sum || seen[string(next)] {
				t.Fatalf("behind %x stands %x", base, next)
			}
			r.derives(t, next, 1)
			seen[string(next)] = true
			base = next
		}
	})
}

// P13.2: unlike suites, base keys and key ids have unlike keys, unlike salts, and no key's beginning is the key behind.
func TestUnlike(t *testing.T) {
	seen := map[string]string{}
	is := func(b []byte, who string) {
		t.Helper()
		if had, is := seen[string(b)]; is {
			t.Errorf("%s is %x, as %s is", who, b, had)
		}
		seen[string(b)] = who
	}
	for _, r := range rows() {
		for n := 1; n <= 4; n++ {
			for _, kid := range []uint64{0, 1, 256, 1 << 32, 1 << 56} {
				k, _ := suite.Derive(r.number, drawn(n), kid)
				who := fmt.Sprintf("suite %d, base %d, kid %d", r.number, n, kid)
				is(k.Key[:12], "the key's first bytes of "+who)
				is(k.Salt[:], "the salt of "+who)
			}
		}
	}
	for _, number := range []uint16{api.Ctr80, api.Gcm256} { // the others have the first one's hash, and so its base key behind
		for n := 1; n <= 4; n++ {
			b, _ := suite.Behind(number, drawn(n))
			is(b[:12], fmt.Sprintf("what stands behind base %d, of suite %d", n, number))
		}
	}
}

// P13.2: what stands behind a base key hangs on the suite's hash alone.
func TestBehindByHash(t *testing.T) {
	want, _ := suite.Behind(api.Ctr80, drawn(16))
	for _, number := range []uint16{api.Ctr64, api.Ctr32, api.Gcm128} {
		if b, e := suite.Behind(number, drawn(16)); e != api.OK || !bytes.Equal(b, want) {
			t.Errorf("suite %d: %x, error %d; not %x", number, b, e, want)
		}
	}
}

// R3: a base key is not changed, nor is what stands behind it, nor is it kept.
func TestBaseStays(t *testing.T) {
	each(t, func(t *testing.T, r row) {
		was := drawn(2048)
		for _, n := range []int{0, 1, 16, 1024, 1025} {
			all := slices.Clone(was)
			k, _ := suite.Derive(r.number, all[:n], 9)
			next, _ := suite.Behind(r.number, all[:n])
			if !bytes.Equal(all, was) {
				t.Errorf("a base key of %d bytes, handed in, or what stands behind it, is otherwise", n)
			}
			clear(all)
			if n < 1 || n > 1024 {
				continue
			}
			if !same(k, r.keys(t, was[:n], 9)) || !bytes.Equal(next, r.behind(t, was[:n])) {
				t.Errorf("a base key of %d bytes: what was answered is otherwise by what was handed in", n)
			}
		}
	})
}

// R3, R5: what is answered is in memory of its own, and what was asked ahead, or failed, is nothing to what comes then.
func TestMemory(t *testing.T) {
	each(t, func(t *testing.T, r row) {
		base := drawn(16)
		for range 3 {
			k, _ := suite.Derive(r.number, base, 9)
			next, _ := suite.Behind(r.number, base)
			clear(k.Key)
			clear(next)
			_ = append(k.Key, "what is written behind"...)
			_ = append(next, "what is written behind"...)
			fails(t, r.number, nil, 9, api.ErrArg)
			fails(t, 0, base, 9, api.ErrSuite)
			r.derives(t, base, 9)
			r.goesOn(t, base)
		}
	})
}
