package gcm_test

import (
	"bytes"
	stdaes "crypto/aes"
	"crypto/cipher"
	"encoding/binary"
	"encoding/hex"
	"math/rand"
	"strconv"
	"strings"
	"sync"
	"testing"

	"hailer/api"
	"hailer/gcm"
)

// keyBytes are how many bytes a key may have.
var keyBytes = []int{16, 32}

// lengths are those of bytes: of none, about a block's and some blocks', and of some hundred.
var lengths = []int{0, 1, 2, 7, 8, 9, 15, 16, 17, 31, 32, 33, 47, 48, 49, 100, 255, 256, 257, 300, 512, 777}

// each runs a test of either key length.
func each(t *testing.T, test func(t *testing.T, n int)) {
	for _, n := range keyBytes {
		t.Run(strconv.Itoa(8*n)+" bits", func(t *testing.T) { test(t, n) })
	}
}

// drawn are n bytes, the same ones at each run for each seed.
func drawn(seed, n int) []byte {
	b := make([]byte, n)
	rand.New(rand.NewSource(int64(seed) + 1)).Read(b)
	return b
}

// block are 16 drawn bytes, nonce 12.
func block(seed int) [16]byte { return [16]byte(drawn(seed, 16)) }
func nonce(seed int) [12]byte { return [12]byte(drawn(seed, 12)) }

// all are n bytes x.
func all(x byte, n int) []byte { return bytes.Repeat([]byte{x}, n) }

// unhex are the bytes written so, to the base 16; blanks between them are passed over.
func unhex(t *testing.T, s string) []byte {
	t.Helper()
	b, err := hex.DecodeString(strings.ReplaceAll(s, " ", ""))
	if err != nil {
		t.Fatal(err)
	}
	return b
}

// changed are the bytes with one bit otherwise.
func changed(b []byte, bit int) []byte {
	b = bytes.Clone(b)
	b[bit/8] ^= 1 << (bit % 8)
	return b
}

// power is x^i as a block, modulo the chapter's polynomial.
func power(i int) [16]byte { return reduced(map[int]bool{i: true}) }

// coefficients are which powers of x a block has.
func coefficients(b [16]byte) map[int]bool {
	has := map[int]bool{}
	for i := range 128 {
		if b[i/8]>>(7-i%8)&1 == 1 {
			has[i] = true
		}
	}
	return has
}

// reduced is the block of these powers of x, modulo the chapter's polynomial.
func reduced(has map[int]bool) (b [16]byte) {
	for i := 254; i >= 128; i-- {
		if has[i] {
			for _, j := range []int{7, 2, 1, 0} {
				has[i-128+j] = !has[i-128+j]
			}
		}
	}
	for i := range 128 {
		if has[i] {
			b[i/8] |= 1 << (7 - i%8)
		}
	}
	return b
}

// times is the product of both, by the chapter's words.
func times(x, y [16]byte) [16]byte {
	product, ofY := map[int]bool{}, coefficients(y)
	for i := range coefficients(x) {
		for j := range ofY {
			product[i+j] = !product[i+j]
		}
	}
	return reduced(product)
}

// plus is one exclusive-or the other.
func plus(x, y [16]byte) [16]byte {
	for i := range x {
		x[i] ^= y[i]
	}
	return x
}

// padded are the bytes, and as few bytes 0 as make a multiple of 16.
func padded(b []byte) []byte {
	return append(bytes.Clone(b), make([]byte, (16-len(b)%16)%16)...)
}

// hashed is the hash, by the chapter's words.
func hashed(h [16]byte, b []byte) (y [16]byte) {
	for b = padded(b); len(b) > 0; b = b[16:] {
		y = times(plus(y, [16]byte(b)), h)
	}
	return y
}

// sums are such blocks as bytes are hashed under: 0, x^0, other powers, all of them, and drawn ones.
func sums() map[string][16]byte {
	return map[string][16]byte{
		"0": {}, "x^0": {0x80}, "x^1": {0x40}, "x^7": {1}, "x^8": {8: 0, 1: 0x80}, "x^63": {7: 1}, "x^64": {8: 0x80},
		"x^120": {15: 0x80}, "x^126": {15: 2}, "x^127": {15: 1}, "all": [16]byte(all(255, 16)),
		"drawn": block(1), "drawn too": block(2),
	}
}

// library is the key's sealing and opening, as the library has it.
func library(t *testing.T, key []byte) (cipher.Block, cipher.AEAD) {
	t.Helper()
	c, err := stdaes.NewCipher(key)
	if err != nil {
		t.Fatal(err)
	}
	g, err := cipher.NewGCM(c)
	if err != nil {
		t.Fatal(err)
	}
	return c, g
}

// sealed is what Seal answers, of a key that is one.
func sealed(t *testing.T, key []byte, nonce [12]byte, aad, plain []byte) []byte {
	t.Helper()
	b, e := gcm.Seal(key, nonce, aad, plain)
	if e != api.OK {
		t.Fatalf("key %x, nonce %x: %d", key, nonce, e)
	}
	return b
}

// opens tells where something sealed is not opened to that text.
func opens(t *testing.T, key []byte, nonce [12]byte, aad, sealed, plain []byte) {
	t.Helper()
	if b, e := gcm.Open(key, nonce, aad, sealed); e != api.OK || !bytes.Equal(b, plain) {
		t.Errorf("key %x, nonce %x, aad %x, sealed %x: %x, %d, not %x", key, nonce, aad, sealed, b, e, plain)
	}
}

// shut tells where something is opened that is not to be.
func shut(t *testing.T, key []byte, nonce [12]byte, aad, sealed []byte) {
	t.Helper()
	if b, e := gcm.Open(key, nonce, aad, sealed); e != api.ErrTag || len(b) != 0 {
		t.Errorf("key %x, nonce %x, aad %x, sealed %x: %x, %d", key, nonce, aad, sealed, b, e)
	}
}

// P5.1: published ones (GCM's own first cases, RFC 8452).
func TestHashExamples(t *testing.T) {
	for _, x := range []struct{ h, b, hash string }{
		{"66e94bd4ef8a2c3b884cfa59ca342b2e", "0388dace60b6a392f328c2b971b2fe78 00000000000000000000000000000080", "f38cbb1ad69223dcc3457ae5b6b0f885"},
		{"25629347589242761d31f826ba4b757b", "4f4f95668c83dfb6401762bb2d01a262 d1a24ddd2721d006bbe45f20d3c9f362", "bd9b3997046731fb96251b91f9c99d7a"},
		{
			"b83b533708bf535d0aa6e52980d53b78",
			"feedfacedeadbeeffeedfacedeadbeef abaddad2000000000000000000000000" +
				"42831ec2217774244b7221b784d0d49c e3aa212f2c02a4e035c17e2329aca12e 21d514b25466931c7d8f6a5aac84aa05 1ba30b396a0aac973d58e09100000000" +
				"00000000000000a000000000000001e0",
			"698e57f70e6ecc7fd9463b7260a9ae5f",
		},
	} {
		if y := gcm.Hash([16]byte(unhex(t, x.h)), unhex(t, x.b)); !bytes.Equal(y[:], unhex(t, x.hash)) {
			t.Errorf("under %s: %x, not %s", x.h, y, x.hash)
		}
	}
}

// P5.1: bytes of each length, drawn ones, 0 and 255, under each of the blocks, by the chapter's words.
func TestHashLengths(t *testing.T) {
	for name, h := range sums() {
		for _, n := range lengths {
			for _, b := range [][]byte{drawn(n, n), all(0, n), all(255, n)} {
				if got, want := gcm.Hash(h, b), hashed(h, b); got != want {
					t.Errorf("under %s, %d bytes %x: %x, not %x", name, n, b, got, want)
				}
			}
		}
	}
}

// P5.1: of no bytes, nil ones or none, the hash is a block 0.
func TestHashNoBytes(t *testing.T) {
	for name, h := range sums() {
		for _, b := range [][]byte{nil, {}, drawn(1, 16)[:0]} {
			if y := gcm.Hash(h, b); y != [16]byte{} {
				t.Errorf("under %s: %x", name, y)
			}
		}
	}
}

// P5.1: under a block 0 all are hashed to one; under x^0 alone to all blocks' exclusive-or.
func TestHashUnderZeroAndOne(t *testing.T) {
	for _, n := range lengths {
		b, want := drawn(n, n), [16]byte{}
		for i, x := range b {
			want[i%16] ^= x
		}
		if y := gcm.Hash([16]byte{}, b); y != [16]byte{} {
			t.Errorf("under 0, %d bytes: %x", n, y)
		}
		if y := gcm.Hash([16]byte{0x80}, b); y != want {
			t.Errorf("under x^0, %d bytes: %x, not %x", n, y, want)
		}
	}
}

// P5.1: one power of x under another: multiplied they are the one of both's sum; so of all other blocks, since these are sums of powers.
func TestHashPowers(t *testing.T) {
	var powers [255][16]byte
	for i := range powers {
		powers[i] = power(i)
	}
	if powers[128] != [16]byte{0xe1} || powers[129] != [16]byte{0x70, 0x80} {
		t.Fatalf("x^128 is %x, x^129 %x", powers[128], powers[129])
	}
	for i := range 128 {
		for j := range 128 {
			if y := gcm.Hash(powers[i], powers[j][:]); y != powers[i+j] {
				t.Errorf("x^%d under x^%d: %x, not %x", j, i, y, powers[i+j])
			}
		}
	}
}

// P5.1: a block under another is as that one under it; of two exclusive-or one another it is both's exclusive-or.
func TestHashLaws(t *testing.T) {
	for i := range 300 {
		x, y, z := block(i), block(i+1000), block(i+2000)
		if gcm.Hash(x, y[:]) != gcm.Hash(y, x[:]) {
			t.Errorf("%x and %x: otherwise, the other way round", x, y)
		}
		sum := plus(x, y)
		if gcm.Hash(z, sum[:]) != plus(gcm.Hash(z, x[:]), gcm.Hash(z, y[:])) || gcm.Hash(sum, z[:]) != plus(gcm.Hash(x, z[:]), gcm.Hash(y, z[:])) {
			t.Errorf("%x and %x, under %x: not the sum", x, y, z)
		}
		if got, want := gcm.Hash(x, append(y[:], z[:]...)), times(plus(times(y, x), z), x); got != want {
			t.Errorf("%x, %x, under %x: %x, not %x", y, z, x, got, want)
		}
	}
}

// P5.1: behind the last bytes, if they are fewer than 16, stand bytes 0, up to the block's end and no farther.
func TestHashLastBytes(t *testing.T) {
	h := block(1)
	for n := range 50 {
		b := drawn(n, n)
		want := gcm.Hash(h, padded(b))
		for more := range (16 - n%16) % 16 {
			if y := gcm.Hash(h, append(bytes.Clone(b), make([]byte, more)...)); y != want {
				t.Errorf("%d bytes, and %d bytes 0: %x, not %x", n, more, y, want)
			}
		}
		if y := gcm.Hash(h, append(padded(b), 0)); n > 0 && y == want {
			t.Errorf("%d bytes: a block more makes no difference", n)
		}
	}
}

// P5.1: each byte counts, and so does each bit of the block.
func TestHashEachBitCounts(t *testing.T) {
	for _, n := range []int{1, 15, 16, 17, 40} {
		h, b := block(n), drawn(n, n)
		want := gcm.Hash(h, b)
		for bit := range 8 * n {
			if gcm.Hash(h, changed(b, bit)) == want {
				t.Errorf("%d bytes: bit %d makes no difference", n, bit)
			}
		}
		for bit := range 128 {
			if gcm.Hash([16]byte(changed(h[:], bit)), b) == want {
				t.Errorf("%d bytes: the block's bit %d makes no difference", n, bit)
			}
		}
	}
}

// P5.1: the hash of many bytes, as the library has it within a tag.
func TestHashMany(t *testing.T) {
	key, aad := drawn(0, 16), drawn(1, api.MaxPlain-3)
	c, g := library(t, key)
	var h, first [16]byte
	c.Encrypt(h[:], h[:])
	first[15] = 1
	c.Encrypt(first[:], first[:])
	tag := g.Seal(nil, make([]byte, 12), nil, aad)
	bits := binary.BigEndian.AppendUint64(nil, uint64(8*len(aad)))
	if got, want := gcm.Hash(h, append(padded(aad), append(bits, make([]byte, 8)...)...)), plus(first, [16]byte(tag)); got != want {
		t.Errorf("%x, not %x", got, want)
	}
}

// P5.2: the chapter's examples, and published ones (GCM's own cases of these keys, and of a nonce of 12 bytes).
func TestSealExamples(t *testing.T) {
	const (
		zero   = "00000000000000000000000000000000"
		key    = "feffe9928665731c6d6a8f9467308308"
		number = "cafebabefacedbaddecaf888"
		aad    = "feedfacedeadbeeffeedfacedeadbeefabaddad2"
		text   = "d9313225f88406e5a55909c5aff5269a86a7a9531534f7da2e4c303d8a318a721c3c0c95956809532fcf0e2449a6b525b16aedf5aa0de657ba637b39"
	)
	for _, x := range []struct{ key, nonce, aad, plain, sealed string }{
		{zero, zero[:24], "", "", "58e2fccefa7e3061367f1d57a4e7455a"},
		{zero, zero[:24], "", zero, "0388dace60b6a392f328c2b971b2fe78 ab6e47d42cec13bdf53a67b21257bddf"},
		{key, number, "", text + "1aafd255", "42831ec2217774244b7221b784d0d49ce3aa212f2c02a4e035c17e2329aca12e21d514b25466931c7d8f6a5aac84aa051ba30b396a0aac973d58e091473f5985 4d5c2af327cd64a62cf35abd2ba6fab4"},
		{key, number, aad, text, "42831ec2217774244b7221b784d0d49ce3aa212f2c02a4e035c17e2329aca12e21d514b25466931c7d8f6a5aac84aa051ba30b396a0aac973d58e091 5bc94fbc3221a5db94fae95ae7121a47"},
		{zero + zero, zero[:24], "", "", "530f8afbc74536b9a963b4f1c4cb738b"},
		{zero + zero, zero[:24], "", zero, "cea7403d4d606b6e074ec5d3baf39d18 d0d1c8a799996bf0265b98b5d48ab919"},
		{key + key, number, "", text + "1aafd255", "522dc1f099567d07f47f37a32a84427d643a8cdcbfe5c0c97598a2bd2555d1aa8cb08e48590dbb3da7b08b1056828838c5f61e6393ba7a0abcc9f662898015ad b094dac5d93471bdec1a502270e3cc6c"},
		{key + key, number, aad, text, "522dc1f099567d07f47f37a32a84427d643a8cdcbfe5c0c97598a2bd2555d1aa8cb08e48590dbb3da7b08b1056828838c5f61e6393ba7a0abcc9f662 76fc6ece0f4e1768cddf8853bb2d551b"},
	} {
		key, nonce, aad, plain, want := unhex(t, x.key), [12]byte(unhex(t, x.nonce)), unhex(t, x.aad), unhex(t, x.plain), unhex(t, x.sealed)
		if got := sealed(t, key, nonce, aad, plain); !bytes.Equal(got, want) {
			t.Errorf("key %x, nonce %x, aad %x, text %x: %x, not %x", key, nonce, aad, plain, got, want)
		}
		opens(t, key, nonce, aad, want, plain)
	}
}

// P5.2: with aad and texts of each length, sealed and opened as the library does it.
func TestLengths(t *testing.T) {
	each(t, func(t *testing.T, n int) {
		for _, a := range lengths {
			for _, p := range lengths {
				key, nonce, aad, plain := drawn(a, n), nonce(p), drawn(p, a), drawn(a, p)
				_, g := library(t, key)
				want := g.Seal(nil, nonce[:], plain, aad)
				if got := sealed(t, key, nonce, aad, plain); !bytes.Equal(got, want) {
					t.Errorf("%d bytes aad, %d bytes: %x, not %x", a, p, got, want)
				}
				opens(t, key, nonce, aad, want, plain)
			}
		}
	})
}

// P5.2: keys, nonces, aad and texts of bytes 0, of bytes 255, and drawn ones, as the library.
func TestBytes(t *testing.T) {
	each(t, func(t *testing.T, n int) {
		for i := range 400 {
			r := rand.New(rand.NewSource(int64(i)))
			drawn := func(n int) []byte {
				b := all(byte(-r.Intn(2)), n)
				if r.Intn(3) > 0 {
					r.Read(b)
				}
				return b
			}
			key, nonce, aad, plain := drawn(n), [12]byte(drawn(12)), drawn(r.Intn(70)), drawn(r.Intn(200))
			_, g := library(t, key)
			want := g.Seal(nil, nonce[:], plain, aad)
			if got := sealed(t, key, nonce, aad, plain); !bytes.Equal(got, want) {
				t.Errorf("seed %d: %x, not %x", i, got, want)
			}
			opens(t, key, nonce, aad, want, plain)
		}
	})
}

// P5.2: long texts, and long aad: the counters' last bytes are carried on from.
func TestLong(t *testing.T) {
	each(t, func(t *testing.T, n int) {
		key, nonce, long := drawn(n, n), nonce(n), drawn(n, api.MaxPlain+16*256+5)
		_, g := library(t, key)
		for _, x := range []struct{ aad, plain []byte }{{nil, long}, {long, nil}, {long[:5000], long[5000:]}} {
			want := g.Seal(nil, nonce[:], x.plain, x.aad)
			if got := sealed(t, key, nonce, x.aad, x.plain); !bytes.Equal(got, want) {
				t.Errorf("%d bytes aad, %d bytes: otherwise", len(x.aad), len(x.plain))
			}
			opens(t, key, nonce, x.aad, want, x.plain)
		}
	})
}

// P5.2: nil aad and text, and ones of no bytes, are alike: a tag alone, which is opened to no bytes.
func TestNoBytes(t *testing.T) {
	each(t, func(t *testing.T, n int) {
		none := [][]byte{nil, {}, drawn(1, 20)[:0]}
		for i := range 20 {
			key, nonce := drawn(i, n), nonce(i)
			_, g := library(t, key)
			want := g.Seal(nil, nonce[:], nil, nil)
			for _, aad := range none {
				for _, plain := range none {
					if got := sealed(t, key, nonce, aad, plain); !bytes.Equal(got, want) {
						t.Errorf("key %x, nonce %x: %x, not %x", key, nonce, got, want)
					}
					opens(t, key, nonce, aad, want, nil)
				}
			}
		}
	})
}

// P5.2: the parts of a tag, by the chapter's words; and what is ahead of it is turned from the second counter on.
func TestTagByItsWords(t *testing.T) {
	each(t, func(t *testing.T, n int) {
		for i, a := range lengths {
			key, nonce, aad, plain := drawn(i, n), nonce(i), drawn(i, a), drawn(i+1, lengths[len(lengths)-1-i])
			c, _ := library(t, key)
			var h [16]byte
			c.Encrypt(h[:], h[:])
			first := [16]byte(append(nonce[:], 0, 0, 0, 1))
			text := bytes.Clone(plain)
			second := append(nonce[:], 0, 0, 0, 2)
			cipher.NewCTR(c, second).XORKeyStream(text, text)
			c.Encrypt(first[:], first[:])
			all := append(padded(aad), padded(text)...)
			all = binary.BigEndian.AppendUint64(all, uint64(8*len(aad)))
			all = binary.BigEndian.AppendUint64(all, uint64(8*len(text)))
			tag := plus(hashed(h, all), first)
			if got, want := sealed(t, key, nonce, aad, plain), append(text, tag[:]...); !bytes.Equal(got, want) {
				t.Errorf("%d bytes aad, %d bytes: %x, not %x", len(aad), len(plain), got, want)
			}
		}
	})
}

// P5.2: ErrArg, and no bytes, of a key that has not 16 or 32 bytes; also ahead of ErrTag.
func TestKeys(t *testing.T) {
	long := drawn(0, 1000)
	for n := range 300 {
		key := long[:n]
		text, e := gcm.Seal(key, nonce(1), drawn(1, 5), drawn(2, 30))
		if n == 16 || n == 32 {
			if e != api.OK {
				t.Errorf("key of %d bytes: %d", n, e)
			}
			opens(t, key, nonce(1), drawn(1, 5), text, drawn(2, 30))
			continue
		}
		if e != api.ErrArg || len(text) != 0 {
			t.Errorf("key of %d bytes: %x, %d", n, text, e)
		}
	}
	right := sealed(t, long[:16], nonce(1), nil, nil)
	for _, key := range [][]byte{nil, {}, long[:15], long[:17], long[:24], long[:31], long[:33], long[:64], long} {
		for _, b := range [][]byte{nil, {}, {1}, drawn(1, 15), drawn(1, 16), drawn(1, 17), drawn(1, 300), right} {
			if text, e := gcm.Seal(key, nonce(1), b, b); e != api.ErrArg || len(text) != 0 {
				t.Errorf("key of %d bytes, %d bytes: %x, %d", len(key), len(b), text, e)
			}
			if text, e := gcm.Open(key, nonce(1), nil, b); e != api.ErrArg || len(text) != 0 {
				t.Errorf("key of %d bytes, %d bytes to be opened: %x, %d", len(key), len(b), text, e)
			}
		}
	}
}

// P5.2: fewer than 16 bytes are ErrTag, be they the tag's first or last ones; just 16 are too, but for the tag, which is opened to no bytes.
func TestOpenFew(t *testing.T) {
	each(t, func(t *testing.T, n int) {
		for i, a := range lengths {
			key, nonce, aad := drawn(i, n), nonce(i), drawn(i, a)
			tag := sealed(t, key, nonce, aad, nil)
			if len(tag) != 16 {
				t.Fatalf("a tag of %d bytes", len(tag))
			}
			opens(t, key, nonce, aad, tag, nil)
			for few := range 16 {
				shut(t, key, nonce, aad, tag[:few])
				shut(t, key, nonce, aad, tag[16-few:])
				shut(t, key, nonce, aad, drawn(few, few))
			}
			shut(t, key, nonce, aad, nil)
			shut(t, key, nonce, aad, drawn(n, 16))
			shut(t, key, nonce, aad, make([]byte, 16))
		}
	})
}

// P5.3: what was sealed is opened as it was, and is as many bytes as the text, and 16.
func TestSealedIsOpened(t *testing.T) {
	each(t, func(t *testing.T, n int) {
		for i := range 300 {
			r := rand.New(rand.NewSource(int64(i)))
			key, nonce, aad, plain := drawn(i, n), nonce(i), drawn(i+1, r.Intn(100)), drawn(i+2, r.Intn(400))
			b := sealed(t, key, nonce, aad, plain)
			if len(b) != len(plain)+16 {
				t.Errorf("seed %d: %d bytes of %d", i, len(b), len(plain))
			}
			opens(t, key, nonce, aad, b, plain)
		}
	})
}

// P5.3: with one bit of the text, the tag, the aad, the nonce or the key changed, it is not opened.
func TestOneBitChanged(t *testing.T) {
	each(t, func(t *testing.T, n int) {
		for _, x := range [][2]int{{0, 0}, {0, 1}, {1, 0}, {15, 17}, {16, 16}, {17, 15}, {3, 300}, {300, 3}} {
			key, nonce, aad, plain := drawn(x[0], n), nonce(x[1]), drawn(x[1], x[0]), drawn(x[0], x[1])
			b := sealed(t, key, nonce, aad, plain)
			for bit := range 8 * len(b) {
				shut(t, key, nonce, aad, changed(b, bit))
			}
			for bit := range 8 * len(aad) {
				shut(t, key, nonce, changed(aad, bit), b)
			}
			for bit := range 8 * len(nonce) {
				shut(t, key, [12]byte(changed(nonce[:], bit)), aad, b)
			}
			for bit := range 8 * len(key) {
				shut(t, changed(key, bit), nonce, aad, b)
			}
			opens(t, key, nonce, aad, b, plain)
		}
	})
}

// P5.3: with one byte more or less, at either end or where the tag begins, it is not opened; nor with more of the aad, or less.
func TestOneByteMoreOrLess(t *testing.T) {
	each(t, func(t *testing.T, n int) {
		for i, a := range []int{0, 1, 15, 16, 17, 31, 32, 100} {
			for _, p := range []int{0, 1, 15, 16, 17, 31, 32, 300} {
				key, nonce, aad, plain := drawn(i, n), nonce(i), drawn(p, a), drawn(a, p)
				b := sealed(t, key, nonce, aad, plain)
				for _, at := range []int{0, p, p + 16} {
					for _, more := range []byte{0, 1, 255} {
						shut(t, key, nonce, aad, bytes.Join([][]byte{b[:at], {more}, b[at:]}, nil))
					}
				}
				for _, at := range []int{0, max(p-1, 0), p, p + 15} {
					shut(t, key, nonce, aad, bytes.Join([][]byte{b[:at], b[at+1:]}, nil))
				}
				for _, more := range []byte{0, 1, 255} {
					shut(t, key, nonce, append(bytes.Clone(aad), more), b)
					shut(t, key, nonce, append([]byte{more}, aad...), b)
				}
				if a > 0 {
					shut(t, key, nonce, aad[1:], b)
					shut(t, key, nonce, aad[:a-1], b)
				}
			}
		}
	})
}

// P5.3: bytes do not go from the aad to the text, or back: both lengths count.
func TestPlacesCount(t *testing.T) {
	each(t, func(t *testing.T, n int) {
		key, nonce := drawn(n, n), nonce(n)
		aad, plain := drawn(1, 48), drawn(2, 48)
		b := sealed(t, key, nonce, aad, plain)
		for _, k := range []int{1, 15, 16, 17, 32, 48} {
			shut(t, key, nonce, aad[:48-k], append(bytes.Clone(aad[48-k:]), b...))
			shut(t, key, nonce, append(bytes.Clone(aad), b[:k]...), b[k:])
		}
		shut(t, key, nonce, plain, b)
		zeros := sealed(t, key, nonce, make([]byte, 16), nil)
		for _, k := range []int{0, 1, 15, 17, 32} {
			shut(t, key, nonce, make([]byte, k), zeros)
		}
	})
}

// P5.3: two tags, or two texts, in one another's place are not opened.
func TestOthersTag(t *testing.T) {
	each(t, func(t *testing.T, n int) {
		key, plain := drawn(n, n), drawn(1, 40)
		one, two := sealed(t, key, nonce(1), nil, plain), sealed(t, key, nonce(2), nil, plain)
		shut(t, key, nonce(1), nil, append(bytes.Clone(one[:40]), two[40:]...))
		shut(t, key, nonce(1), nil, append(bytes.Clone(two[:40]), one[40:]...))
		shut(t, key, nonce(1), nil, two)
		shut(t, key, nonce(1), nil, append(bytes.Clone(one[40:]), one[:40]...))
	})
}

// R3: the key, the aad, the text, what was sealed, and what is about them in their memory, are left as they were.
func TestLeftAsItWas(t *testing.T) {
	each(t, func(t *testing.T, n int) {
		for _, length := range lengths {
			room := drawn(length, n+2*length+200)
			key, aad, plain := room[16:16+n], room[n+48:n+48+length], room[n+80+length:n+80+2*length]
			was, nonce := bytes.Clone(room), nonce(length)
			b := sealed(t, key, nonce, aad, plain)
			clear(sealed(t, key, nonce, aad, plain))
			about := append(append(drawn(1, 32), b...), drawn(2, 32)...)
			wasAbout := bytes.Clone(about)
			text, _ := gcm.Open(key, nonce, aad, about[32:32+len(b)])
			clear(text)
			gcm.Open(key, nonce, aad, about[32:31+len(b)])
			gcm.Open(key[1:], nonce, aad, about)
			gcm.Seal(key[1:], nonce, aad, plain)
			gcm.Hash([16]byte(key), plain)
			if !bytes.Equal(room, was) || !bytes.Equal(about, wasAbout) {
				t.Errorf("%d bytes: written into", length)
			}
		}
	})
}

// R3: what is answered is in memory of its own: neither an argument's, nor another answer's.
func TestAnsweredIsItsOwn(t *testing.T) {
	each(t, func(t *testing.T, n int) {
		for _, length := range lengths {
			key, nonce, aad, plain := drawn(n, n), nonce(length), drawn(1, 20), drawn(2, length)
			b, other := sealed(t, key, nonce, aad, plain), sealed(t, key, nonce, aad, plain)
			want := bytes.Clone(b)
			clear(other[:cap(other)])
			clear(plain)
			if !bytes.Equal(b, want) {
				t.Errorf("%d bytes sealed: otherwise, when others were written into", length)
			}
			text, e := gcm.Open(key, nonce, aad, b)
			again, ee := gcm.Open(key, nonce, aad, b)
			clear(again[:cap(again)])
			clear(b)
			if e != api.OK || ee != api.OK || !bytes.Equal(text, drawn(2, length)) {
				t.Errorf("%d bytes opened: otherwise, when others were written into", length)
			}
			clear(text[:cap(text)])
			opens(t, key, nonce, aad, want, drawn(2, length))
		}
	})
}

// R3: one memory for the key, the aad and the text makes no difference.
func TestSharedMemory(t *testing.T) {
	each(t, func(t *testing.T, n int) {
		b := drawn(n, 100)
		want := sealed(t, bytes.Clone(b[:n]), nonce(n), bytes.Clone(b[5:60]), bytes.Clone(b))
		if got := sealed(t, b[:n], nonce(n), b[5:60], b); !bytes.Equal(got, want) {
			t.Errorf("%x, not %x", got, want)
		}
		self := sealed(t, b[:n], nonce(n), want, nil)
		opens(t, b[:n], nonce(n), want, self, nil)
		shut(t, want[:n], nonce(n), want, want)
	})
}

// R5: what was asked ahead makes no difference, be it another key, another nonce, or what was not opened.
func TestNothingElseCounts(t *testing.T) {
	keys, plain := [][]byte{drawn(0, 16), drawn(0, 32), drawn(1, 16), drawn(0, 16)}, drawn(0, 50)
	want := map[int][]byte{}
	for i := range 40 {
		want[i] = sealed(t, keys[i%4], nonce(i), plain[:i], plain)
	}
	for _, i := range rand.New(rand.NewSource(1)).Perm(40) {
		shut(t, keys[i%4], nonce(i+1), plain[:i], want[i])
		if got := sealed(t, keys[i%4], nonce(i), plain[:i], plain); !bytes.Equal(got, want[i]) {
			t.Errorf("key %x, nonce %d: %x, not %x", keys[i%4], i, got, want[i])
		}
		gcm.Hash(block(i), plain)
		opens(t, keys[i%4], nonce(i), plain[:i], want[i], plain)
	}
}

// R5: goroutines make no difference to one another.
func TestMeanwhile(t *testing.T) {
	var group sync.WaitGroup
	for i := range 8 {
		key, plain := drawn(i%4, keyBytes[i%2]), drawn(0, 200)
		_, g := library(t, key)
		group.Go(func() {
			for j := range 50 {
				nonce := nonce(j)
				want := g.Seal(nil, nonce[:], plain[j:], plain[:j])
				b, e := gcm.Seal(key, nonce, plain[:j], plain[j:])
				text, ee := gcm.Open(key, nonce, plain[:j], want)
				if e != api.OK || ee != api.OK || !bytes.Equal(b, want) || !bytes.Equal(text, plain[j:]) {
					t.Errorf("goroutine %d, nonce %x: otherwise", i, nonce)
				}
			}
		})
	}
	group.Wait()
}
