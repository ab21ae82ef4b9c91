package aes_test

import (
	"bytes"
	stdaes "crypto/aes"
	"encoding/binary"
	"encoding/hex"
	"math/bits"
	"math/rand"
	"strconv"
	"sync"
	"testing"

	"hailer/aes"
	"hailer/api"
)

// keyBytes are how many bytes a key may have.
var keyBytes = []int{16, 32}

// each runs a test of either key length.
func each(t *testing.T, test func(t *testing.T, n int)) {
	for _, n := range keyBytes {
		t.Run(strconv.Itoa(8*n)+" bits", func(t *testing.T) { test(t, n) })
	}
}

// drawn are n bytes, the same ones at each run for each seed.
func drawn(seed, n int) []byte {
	b := make([]byte, n)
	rand.New(rand.NewSource(int64(seed) + 1)).Read(b)
	return b
}

// block are those bytes, as a block.
func block(seed int) [16]byte { return [16]byte(drawn(seed, 16)) }

// all are n bytes x.
func all(x byte, n int) []byte { return bytes.Repeat([]byte{x}, n) }

// counted are the bytes 0, 1, and so on.
func counted(n int) []byte {
	b := make([]byte, n)
	for i := range b {
		b[i] = byte(i)
	}
	return b
}

// unhex are the bytes written so, to the base 16.
func unhex(t *testing.T, s string) []byte {
	t.Helper()
	b, err := hex.DecodeString(s)
	if err != nil {
		t.Fatal(err)
	}
	return b
}

// made is the key's cipher, which there must be.
func made(t *testing.T, key []byte) *aes.Cipher {
	t.Helper()
	c, e := aes.New(key)
	if c == nil || e != api.OK {
		t.Fatalf("key %x: %v, %d", key, c, e)
	}
	return c
}

// sealed is the block sealed, as the library has it.
func sealed(t *testing.T, key []byte, b [16]byte) [16]byte {
	t.Helper()
	c, err := stdaes.NewCipher(key)
	if err != nil {
		t.Fatal(err)
	}
	c.Encrypt(b[:], b[:])
	return b
}

// opened is the block that the library finds was sealed.
func opened(t *testing.T, key []byte, b [16]byte) [16]byte {
	t.Helper()
	c, err := stdaes.NewCipher(key)
	if err != nil {
		t.Fatal(err)
	}
	c.Decrypt(b[:], b[:])
	return b
}

// holds tells where the key's cipher seals a block otherwise than the library.
func holds(t *testing.T, key []byte, b [16]byte) {
	t.Helper()
	if got, want := made(t, key).Seal(b), sealed(t, key, b); got != want {
		t.Errorf("key %x, block %x: %x, not %x", key, b, got, want)
	}
}

// times are two bytes multiplied, as the chapter has it.
func times(x, y byte) byte {
	var p uint16
	for i := range 8 {
		if y>>i&1 == 1 {
			p ^= uint16(x) << i
		}
	}
	for i := 15; i >= 8; i-- {
		if p>>i&1 == 1 {
			p ^= 0x11b << (i - 8)
		}
	}
	return byte(p)
}

// inverse is the byte by which x is multiplied to 1; 0 of 0.
func inverse(x byte) byte {
	for y := range 256 {
		if times(x, byte(y)) == 1 {
			return byte(y)
		}
	}
	return 0
}

// P3.1: S of all 256 bytes, by the chapter's words.
func TestS(t *testing.T) {
	for n := range 256 {
		v, want := inverse(byte(n)), byte(0)
		for i := range 8 {
			bit := v>>i ^ v>>((i+4)%8) ^ v>>((i+5)%8) ^ v>>((i+6)%8) ^ v>>((i+7)%8) ^ 99>>i
			want |= bit & 1 << i
		}
		if s := aes.S(byte(n)); s != want {
			t.Errorf("S of %d: %d, not %d", n, s, want)
		}
	}
}

// P3.1: published ones of them (FIPS 197), at either end and between.
func TestSExamples(t *testing.T) {
	for _, x := range []struct{ b, s byte }{{0x00, 0x63}, {0x01, 0x7c}, {0x07, 0xc5}, {0x08, 0x30}, {0x53, 0xed}, {0x7f, 0xd2}, {0x80, 0xcd}, {0xf8, 0x41}, {0xfe, 0xbb}, {0xff, 0x16}} {
		if s := aes.S(x.b); s != x.s {
			t.Errorf("S of %x: %x, not %x", x.b, s, x.s)
		}
	}
}

// P3.3: no two bytes have one S; none has itself, nor its bits turned over.
func TestSNoTwoAlike(t *testing.T) {
	from := map[byte]int{}
	for n := range 256 {
		s := aes.S(byte(n))
		if other, is := from[s]; is {
			t.Errorf("%d and %d have one S, %d", other, n, s)
		}
		if s == byte(n) || s == ^byte(n) {
			t.Errorf("S of %d: %d", n, s)
		}
		from[s] = n
	}
}

// P3.1: keys of 16 and of 32 bytes have a cipher, of 10 and of 14 rounds; others, a nil one, and one of none have none.
func TestNew(t *testing.T) {
	rounds := map[int]int{16: 10, 32: 14}
	lengths := []int{192, 256, 384, 1 << 16, 1<<16 + 16, 1<<20 + 32}
	for n := range 130 {
		lengths = append(lengths, n)
	}
	for _, n := range lengths {
		c, e := aes.New(make([]byte, n))
		if want, is := rounds[n]; is {
			if c == nil || e != api.OK || c.Rounds() != want {
				t.Errorf("%d bytes: %v, %d, %d rounds", n, c, e, c.Rounds())
			}
		} else if c != nil || e != api.ErrArg || c.Rounds() != 0 {
			t.Errorf("%d bytes: %v, %d, %d rounds", n, c, e, c.Rounds())
		}
	}
	if c, e := aes.New(nil); c != nil || e != api.ErrArg {
		t.Errorf("a nil key: %v, %d", c, e)
	}
}

// P3.1: what is behind a key in its memory is none of it: neither of one that has too few bytes, nor of one that has enough.
func TestNewRoomBehind(t *testing.T) {
	room := drawn(0, 64)
	for n := range 33 {
		c, e := aes.New(room[:n])
		if is := n == 16 || n == 32; (e == api.OK) != is || (c != nil) != is {
			t.Errorf("%d bytes of 64: %v, %d", n, c, e)
		}
	}
	each(t, func(t *testing.T, n int) {
		b := block(1)
		if made(t, room[:n]).Seal(b) != sealed(t, bytes.Clone(room[:n]), b) {
			t.Error("otherwise than the key in a memory of its own")
		}
	})
}

// P3.1: what the key's bytes are makes no difference for how many rounds there are, nor what was sealed ahead.
func TestRounds(t *testing.T) {
	each(t, func(t *testing.T, n int) {
		for _, key := range [][]byte{all(0, n), all(255, n), counted(n), drawn(n, n)} {
			c := made(t, key)
			for range 3 {
				if r := c.Rounds(); r != n/4+6 {
					t.Errorf("key %x: %d rounds", key, r)
				}
				c.Seal(block(0))
			}
		}
	})
}

// P3.1, P3.2, R4: nil ciphers, be they handed out by New or not.
func TestNilCipher(t *testing.T) {
	refused, _ := aes.New(make([]byte, 24))
	for i, c := range []*aes.Cipher{nil, refused} {
		if r := c.Rounds(); r != 0 {
			t.Errorf("nil cipher %d: %d rounds", i, r)
		}
		for _, b := range [][16]byte{{}, [16]byte(all(255, 16)), block(0)} {
			if s := c.Seal(b); s != [16]byte{} {
				t.Errorf("nil cipher %d, block %x: %x", i, b, s)
			}
		}
	}
}

// P3.2: the chapter's examples, and published ones (FIPS 197, SP 800-38A).
func TestSealExamples(t *testing.T) {
	key128, key256 := "2b7e151628aed2a6abf7158809cf4f3c", "603deb1015ca71be2b73aef0857d77811f352c073b6108d72d9810a30914dff4"
	for _, x := range []struct{ key, block, sealed string }{
		{hex.EncodeToString(counted(16)), "00112233445566778899aabbccddeeff", "69c4e0d86a7b0430d8cdb78070b4c55a"},
		{hex.EncodeToString(counted(32)), "00112233445566778899aabbccddeeff", "8ea2b7ca516745bfeafc49904b496089"},
		{key128, "3243f6a8885a308d313198a2e0370734", "3925841d02dc09fbdc118597196a0b32"},
		{key128, "6bc1bee22e409f96e93d7e117393172a", "3ad77bb40d7a3660a89ecaf32466ef97"},
		{key128, "ae2d8a571e03ac9c9eb76fac45af8e51", "f5d3d58503b9699de785895a96fdbaaf"},
		{key128, "30c81c46a35ce411e5fbc1191a0a52ef", "43b1cd7f598ece23881b00e3ed030688"},
		{key128, "f69f2445df4f9b17ad2b417be66c3710", "7b0c785e27e8ad3f8223207104725dd4"},
		{key256, "6bc1bee22e409f96e93d7e117393172a", "f3eed1bdb5d2a03c064b5a7e3db181f8"},
		{key256, "ae2d8a571e03ac9c9eb76fac45af8e51", "591ccb10d410ed26dc5ba74a31362870"},
		{key256, "30c81c46a35ce411e5fbc1191a0a52ef", "b6ed21b99ca6f4f9f153e7b1beafed1d"},
		{key256, "f69f2445df4f9b17ad2b417be66c3710", "23304b7a39f9f3ff067d8d8f9e24ecc7"},
		{"00000000000000000000000000000000", "00000000000000000000000000000000", "66e94bd4ef8a2c3b884cfa59ca342b2e"},
		{"0000000000000000000000000000000000000000000000000000000000000000", "00000000000000000000000000000000", "dc95c078a2408989ad48a21492842087"},
	} {
		if b := made(t, unhex(t, x.key)).Seal([16]byte(unhex(t, x.block))); !bytes.Equal(b[:], unhex(t, x.sealed)) {
			t.Errorf("key %s, block %s: %x", x.key, x.block, b)
		}
	}
}

// P3.2: blocks of bytes 0, of bytes 255, and ordinary ones, under keys of such; each byte as the whole of both.
func TestSealBytes(t *testing.T) {
	each(t, func(t *testing.T, n int) {
		for _, key := range [][]byte{all(0, n), all(255, n), counted(n), drawn(n, n)} {
			for _, b := range [][16]byte{{}, [16]byte(all(255, 16)), [16]byte(counted(16)), block(0)} {
				holds(t, key, b)
			}
		}
		for x := range 256 {
			holds(t, all(byte(x), n), [16]byte(all(byte(x), 16)))
			holds(t, counted(n), [16]byte(all(byte(x), 16)))
		}
	})
}

// P3.2: drawn keys and blocks.
func TestSealDrawn(t *testing.T) {
	each(t, func(t *testing.T, n int) {
		for i := range 2000 {
			holds(t, drawn(i, n), block(-i-2))
		}
	})
}

// P3.2: keys, and blocks, of one bit that is 1, and of one that is 0.
func TestSealOneBit(t *testing.T) {
	each(t, func(t *testing.T, n int) {
		for _, x := range []byte{0, 255} {
			for bit := range 8 * n {
				key := all(x, n)
				key[bit/8] ^= 1 << (bit % 8)
				holds(t, key, [16]byte{})
			}
			for bit := range 128 {
				b := [16]byte(all(x, 16))
				b[bit/8] ^= 1 << (bit % 8)
				holds(t, all(0, n), b)
			}
		}
	})
}

// P3.2: what is sealed is sealed again, many times over, under keys that come of it.
func TestSealAgainAndAgain(t *testing.T) {
	each(t, func(t *testing.T, n int) {
		key, b, want := make([]byte, n), [16]byte{}, [16]byte{}
		for range 30 {
			c := made(t, key)
			for range 100 {
				b, want = c.Seal(b), sealed(t, key, want)
			}
			if b != want {
				t.Fatalf("key %x: %x, not %x", key, b, want)
			}
			for i, x := range b {
				key[i] ^= x
				key[n-1-i] ^= bits.RotateLeft8(x, 3)
			}
		}
	})
}

// P3.2: each bit of the key, and of the block, makes a difference, and so does the key's length.
func TestSealEachBitCounts(t *testing.T) {
	each(t, func(t *testing.T, n int) {
		both := drawn(n, n+16)
		seen := map[[16]byte]int{made(t, both[:n]).Seal([16]byte(both[n:])): -1}
		for bit := range 8 * len(both) {
			both[bit/8] ^= 1 << (bit % 8)
			s := made(t, both[:n]).Seal([16]byte(both[n:]))
			if other, is := seen[s]; is {
				t.Errorf("bits %d and %d: sealed to one", other, bit)
			}
			seen[s] = bit
			both[bit/8] ^= 1 << (bit % 8)
		}
	})
	for _, key := range [][]byte{all(0, 32), all(255, 32), append(counted(16), counted(16)...)} {
		if made(t, key).Seal(block(0)) == made(t, key[:16]).Seal(block(0)) {
			t.Errorf("key %x, and half of it: sealed to one", key)
		}
	}
}

// P3.3: under one key no two unlike blocks are sealed to one: counted ones, drawn ones, and such as differ in one byte alone.
func TestSealNoTwoAlike(t *testing.T) {
	each(t, func(t *testing.T, n int) {
		for _, key := range [][]byte{all(0, n), all(255, n), drawn(n, n)} {
			c := made(t, key)
			from := map[[16]byte][16]byte{}
			test := func(b [16]byte) {
				s := c.Seal(b)
				if other, is := from[s]; is && other != b {
					t.Errorf("key %x: %x and %x are sealed to one", key, other, b)
				}
				from[s] = b
			}
			for i := range 1 << 14 {
				test([16]byte(binary.BigEndian.AppendUint64(make([]byte, 8), uint64(i))))
				test([16]byte(binary.BigEndian.AppendUint64(all(255, 8), ^uint64(i))))
			}
			for i := range 2000 {
				test(block(i))
			}
			for i := range 16 * 256 {
				b := block(n)
				b[i/256] = byte(i)
				test(b)
			}
		}
	})
}

// P3.3: from what is sealed the library finds the block again, so that no other one is sealed to that.
func TestSealedIsOpened(t *testing.T) {
	each(t, func(t *testing.T, n int) {
		for i := range 500 {
			key, b := drawn(i, n), block(i+1)
			if o := opened(t, key, made(t, key).Seal(b)); o != b {
				t.Errorf("key %x, block %x: opened to %x", key, b, o)
			}
		}
	})
}

// R3: a cipher seals alike whatever becomes of the bytes of the key that was handed in.
func TestKeyIsNotKept(t *testing.T) {
	each(t, func(t *testing.T, n int) {
		key, b := drawn(n, n), block(0)
		c, want := made(t, key), sealed(t, key, b)
		for i := range key {
			key[i] ^= 255
			if s := c.Seal(b); s != want || c.Rounds() != n/4+6 {
				t.Fatalf("with %d bytes of the key changed: %x, not %x", i+1, s, want)
			}
		}
		clear(key)
		if s := c.Seal(b); s != want {
			t.Errorf("with a key of bytes 0: %x, not %x", s, want)
		}
		if s := made(t, key).Seal(b); s != sealed(t, all(0, n), b) {
			t.Errorf("a new cipher of that key: %x", s)
		}
	})
}

// R3: neither the key, nor what is about it in its memory, nor the block is otherwise; be the key one that is refused.
func TestLeftAsItWas(t *testing.T) {
	for _, n := range []int{0, 1, 15, 16, 17, 24, 31, 32, 33} {
		room, b := drawn(n, n+64), block(n)
		was, block := bytes.Clone(room), b
		c, _ := aes.New(room[32 : 32+n])
		s := c.Seal(b)
		c.Rounds()
		clear(s[:])
		if !bytes.Equal(room, was) || b != block {
			t.Errorf("a key of %d bytes: written into", n)
		}
	}
}

// R3: what is sealed is in memory of its own.
func TestSealedIsItsOwn(t *testing.T) {
	each(t, func(t *testing.T, n int) {
		c, b := made(t, counted(n)), block(0)
		first, want := c.Seal(b), c.Seal(b)
		clear(first[:])
		if s := c.Seal(b); s != want || s == first {
			t.Errorf("%x, not %x", s, want)
		}
	})
}

// R5: what was sealed ahead makes no difference, nor what other ciphers there are, of the same key or of others.
func TestNothingElseCounts(t *testing.T) {
	one, same, other, long := made(t, counted(16)), made(t, counted(16)), made(t, drawn(0, 16)), made(t, counted(32))
	var want, wantOther, wantLong [][16]byte
	for i := range 100 {
		want = append(want, sealed(t, counted(16), block(i)))
		wantOther = append(wantOther, sealed(t, drawn(0, 16), block(i)))
		wantLong = append(wantLong, sealed(t, counted(32), block(i)))
	}
	for _, i := range append(rand.New(rand.NewSource(1)).Perm(100), 5, 5, 5) {
		if one.Seal(block(i)) != want[i] || other.Seal(block(i)) != wantOther[i] || long.Seal(block(i)) != wantLong[i] || same.Seal(block(i)) != want[i] {
			t.Errorf("block %d", i)
		}
	}
}

// R5: ciphers that are asked at one time, each by one alone, make no difference to one another.
func TestCiphersMeanwhile(t *testing.T) {
	var all sync.WaitGroup
	for i := range 8 {
		all.Go(func() {
			for j := range 200 {
				key, b := drawn(i*1000+j, keyBytes[i%2]), block(j)
				c, e := aes.New(key)
				if e != api.OK || c.Seal(b) != sealed(t, key, b) {
					t.Errorf("key %x, block %x", key, b)
				}
			}
		})
	}
	all.Wait()
}
