package ctr_test

import (
	"bytes"
	stdaes "crypto/aes"
	"crypto/cipher"
	"encoding/binary"
	"encoding/hex"
	"iter"
	"math"
	"math/rand"
	"slices"
	"strconv"
	"strings"
	"sync"
	"testing"

	"hailer/aes"
	"hailer/api"
	"hailer/ctr"
)

// keyBytes are how many bytes a key may have.
var keyBytes = []int{16, 32}

// numbers are such as a counter's last four bytes may be: at each byte's edges, and between.
var numbers = []uint32{
	0, 1, 0x7f, 0x80, 0xfe, 0xff, 0x100, 0x1ff, 0xfeff, 0xff00, 0xffff, 0x10000, 0x1ffff,
	0xfeffff, 0xff00ff, 0xffff00, 0xffffff, 0x1000000, 0x1ffffff, 0x01020304, 0xff0000ff,
	0x7fffffff, 0x80000000, 0xfeffffff, 0xff000000, 0xff00ffff, 0xffff00ff, 0xffffff00, 0xfffffffe, 0xffffffff,
}

// lengths are those of texts: of none, about a block's and some blocks', and of some hundred bytes.
var lengths = []int{0, 1, 2, 15, 16, 17, 31, 32, 33, 47, 48, 49, 100, 255, 256, 257, 300, 512, 777}

// each runs a test of either key length.
func each(t *testing.T, test func(t *testing.T, n int)) {
	for _, n := range keyBytes {
		t.Run(strconv.Itoa(8*n)+" bits", func(t *testing.T) { test(t, n) })
	}
}

// drawn are n bytes, the same ones at each run for each seed.
func drawn(seed, n int) []byte {
	b := make([]byte, n)
	rand.New(rand.NewSource(int64(seed) + 1)).Read(b)
	return b
}

// all are n bytes x.
func all(x byte, n int) []byte { return bytes.Repeat([]byte{x}, n) }

// unhex are the bytes written so, to the base 16; blanks between them are passed over.
func unhex(t *testing.T, s string) []byte {
	t.Helper()
	b, err := hex.DecodeString(strings.ReplaceAll(s, " ", ""))
	if err != nil {
		t.Fatal(err)
	}
	return b
}

// counter is the one of these first twelve bytes, and of that number.
func counter(head []byte, number uint32) [16]byte {
	return [16]byte(binary.BigEndian.AppendUint32(bytes.Clone(head[:12]), number))
}

// counters are counters of each of the numbers, behind bytes 0, bytes 255, and drawn ones.
func counters() (l [][16]byte) {
	for i, number := range numbers {
		l = append(l, counter(all(0, 12), number), counter(all(255, 12), number), counter(drawn(i, 12), number))
	}
	return l
}

// behind is the n-th counter behind this one, by the chapter's words.
func behind(from [16]byte, n int) [16]byte {
	number := uint64(binary.BigEndian.Uint32(from[12:])) + uint64(n)
	return counter(from[:], uint32(number%(1<<32)))
}

// made is the key's cipher, which there must be.
func made(t *testing.T, key []byte) *aes.Cipher {
	t.Helper()
	c, e := aes.New(key)
	if c == nil || e != api.OK {
		t.Fatalf("key %x: %v, %d", key, c, e)
	}
	return c
}

// other is the key's cipher, as the library has it.
func other(t *testing.T, key []byte) cipher.Block {
	t.Helper()
	c, err := stdaes.NewCipher(key)
	if err != nil {
		t.Fatal(err)
	}
	return c
}

// stream are the first n blocks of the stream, by the chapter's words; the library seals the counters.
func stream(t *testing.T, key []byte, from [16]byte, n int) [][16]byte {
	t.Helper()
	c, l := other(t, key), make([][16]byte, n)
	for i := range l {
		at := behind(from, i)
		c.Encrypt(l[i][:], at[:])
	}
	return l
}

// turned is the text turned, by the chapter's words.
func turned(t *testing.T, key []byte, from [16]byte, text []byte) []byte {
	t.Helper()
	by, out := stream(t, key, from, (len(text)+15)/16), bytes.Clone(text)
	for i := range out {
		out[i] ^= by[i/16][i%16]
	}
	return out
}

// turn is what Turn answers, of a cipher that there is.
func turn(t *testing.T, c *aes.Cipher, from [16]byte, l ...[]byte) []byte {
	t.Helper()
	b, e := ctr.Turn(c, from, l...)
	if e != api.OK {
		t.Fatalf("counter %x: %d", from, e)
	}
	return b
}

// holds tells where a text is turned otherwise than by the chapter's words.
func holds(t *testing.T, key []byte, from [16]byte, text []byte) {
	t.Helper()
	if got, want := turn(t, made(t, key), from, text), turned(t, key, from, text); !bytes.Equal(got, want) {
		t.Errorf("key %x, counter %x, %d bytes: %x, not %x", key, from, len(text), got, want)
	}
}

// first are the first n blocks that the iterator goes over.
func first(blocks iter.Seq[[16]byte], n int) (l [][16]byte) {
	if n == 0 {
		return nil
	}
	for b := range blocks {
		if l = append(l, b); len(l) == n {
			break
		}
	}
	return l
}

// P4.1: the chapter's examples.
func TestNextExamples(t *testing.T) {
	for _, x := range []struct{ counter, next string }{
		{strings.Repeat("00", 15) + "ff", strings.Repeat("00", 14) + "0100"},
		{"01" + strings.Repeat("ff", 15), "01" + strings.Repeat("ff", 11) + "00000000"},
		{strings.Repeat("00", 16), strings.Repeat("00", 15) + "01"},
		{strings.Repeat("ff", 16), strings.Repeat("ff", 12) + "00000000"},
	} {
		if n := ctr.Next([16]byte(unhex(t, x.counter))); !bytes.Equal(n[:], unhex(t, x.next)) {
			t.Errorf("behind %s: %x, not %s", x.counter, n, x.next)
		}
	}
}

// P4.1: last four bytes of 0, of 255, and between, at each edge; one of them 0 to 255, the others 0, 255 and between.
func TestNextNumbers(t *testing.T) {
	holds := func(c [16]byte) {
		t.Helper()
		if n := ctr.Next(c); n != behind(c, 1) {
			t.Errorf("behind %x: %x, not %x", c, n, behind(c, 1))
		}
	}
	for _, c := range counters() {
		holds(c)
	}
	for at := 12; at < 16; at++ {
		for x := range 256 {
			for _, others := range []byte{0, 1, 127, 128, 254, 255} {
				c := [16]byte(all(others, 16))
				c[at] = byte(x)
				holds(c)
			}
		}
	}
	for i := range 2000 {
		holds([16]byte(drawn(i, 16)))
	}
}

// P4.1: counter by counter, past two of the bytes' greatest, and past the number's.
func TestNextAgainAndAgain(t *testing.T) {
	for _, number := range []uint32{0, 0xff, 0xfffffe, 0xffff8000} {
		from := counter(drawn(int(number), 12), number)
		for c, i := from, 0; i < 1<<17; i++ {
			if c != behind(from, i) {
				t.Fatalf("%d behind %x: %x", i, from, c)
			}
			c = ctr.Next(c)
		}
	}
}

// P4.1: each bit of the first twelve bytes stays as it is, and makes no difference to the number.
func TestNextOtherBytes(t *testing.T) {
	for _, c := range counters() {
		number := ctr.Next(c)
		for bit := range 8 * 12 {
			x := c
			x[bit/8] ^= 1 << (bit % 8)
			if n := ctr.Next(x); [12]byte(n[:12]) != [12]byte(x[:12]) || [4]byte(n[12:]) != [4]byte(number[12:]) {
				t.Errorf("behind %x: %x", x, n)
			}
		}
	}
}

// P4.1: the stream's first blocks, from each counter on; a published one (a block 0 under a key 0) is the first of the first.
func TestBlocksFirst(t *testing.T) {
	for b := range ctr.Blocks(made(t, make([]byte, 16)), [16]byte{}) {
		if !bytes.Equal(b[:], unhex(t, "66e94bd4ef8a2c3b884cfa59ca342b2e")) {
			t.Errorf("%x", b)
		}
		break
	}
	each(t, func(t *testing.T, n int) {
		for i, from := range counters() {
			key := drawn(i, n)
			if got, want := first(ctr.Blocks(made(t, key), from), 5), stream(t, key, from, 5); !slices.Equal(got, want) {
				t.Errorf("key %x, counter %x: %x, not %x", key, from, got, want)
			}
		}
	})
}

// P4.1: the stream has no end, as far as one goes: it goes past two of the bytes' greatest, and past the number's.
func TestBlocksFar(t *testing.T) {
	each(t, func(t *testing.T, n int) {
		const far = 1<<16 + 1000
		for _, number := range []uint32{0, 0xfffffe00, 0xffff8000} {
			key, from := drawn(n, n), counter(drawn(int(number), 12), number)
			if got, want := first(ctr.Blocks(made(t, key), from), far), stream(t, key, from, far); !slices.Equal(got, want) {
				t.Errorf("counter %x: otherwise, among the first %d", from, far)
			}
		}
	})
}

// P4.1, R6: a loop that stops at once, after one block, and after some, gets no block more.
func TestBlocksLeft(t *testing.T) {
	each(t, func(t *testing.T, n int) {
		key, from := drawn(n, n), counter(drawn(0, 12), math.MaxUint32-2)
		blocks, want := ctr.Blocks(made(t, key), from), stream(t, key, from, 40)
		for range blocks {
			break
		}
		for _, stop := range []int{1, 2, 3, 4, 5, 17, 40} {
			var got [][16]byte
			blocks(func(b [16]byte) bool {
				got = append(got, b)
				return len(got) < stop
			})
			if !slices.Equal(got, want[:stop]) {
				t.Errorf("left after %d: %x", stop, got)
			}
		}
	})
}

// P4.1, R6: a loop over a stream that was gone over, and left at whatever place, begins anew.
func TestBlocksAnew(t *testing.T) {
	each(t, func(t *testing.T, n int) {
		key, from := drawn(n, n), counter(drawn(0, 12), math.MaxUint32-2)
		blocks, want := ctr.Blocks(made(t, key), from), stream(t, key, from, 20)
		for _, stop := range []int{1, 0, 20, 2, 3, 3, 19} {
			if got := first(blocks, stop); !slices.Equal(got, want[:stop]) {
				t.Errorf("left after %d: %x", stop, got)
			}
		}
	})
}

// P4.1, R6: two loops over one stream, one within the other, and side by side, each have all its blocks.
func TestBlocksTwoLoops(t *testing.T) {
	each(t, func(t *testing.T, n int) {
		key, from := drawn(n, n), counter(drawn(0, 12), math.MaxUint32-2)
		blocks, want := ctr.Blocks(made(t, key), from), stream(t, key, from, 12)
		i := 0
		for outer := range blocks {
			if inner := first(blocks, i); outer != want[i] || !slices.Equal(inner, want[:i]) {
				t.Errorf("loop within block %d: %x, %x", i, outer, inner)
			}
			if i++; i == len(want) {
				break
			}
		}
		one, stopOne := iter.Pull(blocks)
		two, stopTwo := iter.Pull(blocks)
		defer stopOne()
		defer stopTwo()
		for i := range 6 {
			a, _ := one()
			b, _ := two()
			c, is := two()
			if !is || a != want[i] || b != want[2*i] || c != want[2*i+1] {
				t.Errorf("side by side, at %d: %x, %x, %x", i, a, b, c)
			}
		}
	})
}

// P4.1: what becomes of a block, or of the counter that was handed in, makes no difference to what comes.
func TestBlocksAreTheirOwn(t *testing.T) {
	each(t, func(t *testing.T, n int) {
		key, from := drawn(n, n), counter(drawn(0, 12), 254)
		want := stream(t, key, from, 10)
		blocks := ctr.Blocks(made(t, key), from)
		clear(from[:])
		i := 0
		for b := range blocks {
			if b != want[i] {
				t.Errorf("block %d: %x, not %x", i, b, want[i])
			}
			clear(b[:])
			if i++; i == len(want) {
				break
			}
		}
	})
}

// P4.1, P4.2, R4: without a cipher there is no block, and ErrNil with no bytes, be there a text or none.
func TestNoCipher(t *testing.T) {
	refused, _ := aes.New(make([]byte, 24))
	texts := [][][]byte{nil, {}, {nil}, {{}}, {nil, {}, nil}, {{1}}, {all(0, 16)}, {drawn(0, 15), nil, drawn(1, 300)}}
	for _, c := range []*aes.Cipher{nil, refused} {
		for _, from := range counters() {
			blocks := ctr.Blocks(c, from)
			if blocks == nil {
				t.Fatalf("counter %x: a nil iterator", from)
			}
			for range 2 {
				for b := range blocks {
					t.Fatalf("counter %x: a block %x", from, b)
				}
			}
			for _, l := range texts {
				if b, e := ctr.Turn(c, from, l...); len(b) != 0 || e != api.ErrNil {
					t.Errorf("counter %x, texts %x: %x, %d", from, l, b, e)
				}
			}
		}
	}
}

// P4.2: the chapter's example, and published ones (SP 800-38A, RFC 3686).
func TestTurnExamples(t *testing.T) {
	const counted = "000102030405060708090a0b0c0d0e0f 101112131415161718191a1b1c1d1e1f"
	single := hex.EncodeToString([]byte("Single block msg"))
	nist := "6bc1bee22e409f96e93d7e117393172a ae2d8a571e03ac9c9eb76fac45af8e51 30c81c46a35ce411e5fbc1191a0a52ef f69f2445df4f9b17ad2b417be66c3710"
	for _, x := range []struct{ key, from, text, turned string }{
		{
			strings.Repeat("00", 16), strings.Repeat("00", 16), strings.Repeat("00", 16),
			"66e94bd4ef8a2c3b884cfa59ca342b2e",
		}, {
			"2b7e151628aed2a6abf7158809cf4f3c", "f0f1f2f3f4f5f6f7f8f9fafbfcfdfeff", nist,
			"874d6191b620e3261bef6864990db6ce 9806f66b7970fdff8617187bb9fffdff 5ae4df3edbd5d35e5b4f09020db03eab 1e031dda2fbe03d1792170a0f3009cee",
		}, {
			"603deb1015ca71be2b73aef0857d7781 1f352c073b6108d72d9810a30914dff4", "f0f1f2f3f4f5f6f7f8f9fafbfcfdfeff", nist,
			"601ec313775789a5b7a7f504bbf3d228 f443e3ca4d62b59aca84e990cacaf5c5 2b0930daa23de94ce87017ba2d84988d dfc9c58db67aada613c2dd08457941a6",
		}, {
			"ae6852f8121067cc4bf7a5765577f39e", "00000030 0000000000000000 00000001", single,
			"e4095d4fb7a7b3792d6175a3261311b8",
		}, {
			"7e24067817fae0d743d6ce1f32539163", "006cb6db c0543b59da48d90b 00000001", counted,
			"5104a106168a72d9790d41ee8edad388 eb2e1efc46da57c8fce630df9141be28",
		}, {
			"7691be035e5020a8ac6e618529f9a0dc", "00e0017b 27777f3f4a1786f0 00000001", counted + "20212223",
			"c1cf48a89f2ffdd9cf4652e9efdb72d7 4540a42bde6d7836d59a5ceaaef31053 25b2072f",
		}, {
			"776beff2851db06f4c8a0542c8696f6c 6a81af1eec96b4d37fc1d689e6c1c104", "00000060 db5672c97aa8f0b2 00000001", single,
			"145ad01dbf824ec7560863dc71e3e0c0",
		}, {
			"ff7a617ce69148e4f1726e2f43581de2 aa62d9f805532edff1eed687fb54153d", "001cc5b7 51a51d70a1c11148 00000001", counted + "20212223",
			"eb6c52821d0bbbf7ce7594462aca4faa b407df866569fd07f48cc0b583d6071f 1ec0e6b8",
		},
	} {
		got := turn(t, made(t, unhex(t, x.key)), [16]byte(unhex(t, x.from)), unhex(t, x.text))
		if !bytes.Equal(got, unhex(t, x.turned)) {
			t.Errorf("key %s, counter %s: %x, not %s", x.key, x.from, got, x.turned)
		}
	}
}

// P4.2: texts of none, of 1, 15, 16, 17 and some hundred bytes, turned from each counter on.
func TestTurnLengths(t *testing.T) {
	each(t, func(t *testing.T, n int) {
		for i, from := range counters() {
			for _, length := range lengths {
				holds(t, drawn(i, n), from, drawn(length, length))
			}
		}
		for length := range 200 {
			holds(t, all(byte(length), n), counter(drawn(length, 12), math.MaxUint32-3), drawn(-length, length))
		}
	})
}

// P4.2: bytes 0 are turned to the stream's own, bytes 255 to its bytes turned over.
func TestTurnBytes(t *testing.T) {
	each(t, func(t *testing.T, n int) {
		for _, key := range [][]byte{all(0, n), all(255, n), drawn(n, n)} {
			for _, from := range [][16]byte{{}, [16]byte(all(255, 16)), counter(drawn(0, 12), 250)} {
				c := made(t, key)
				by := stream(t, key, from, 10)
				zeros, ones := turn(t, c, from, all(0, 150)), turn(t, c, from, all(255, 150))
				for i := range 150 {
					if b := by[i/16][i%16]; zeros[i] != b || ones[i] != ^b {
						t.Fatalf("key %x, counter %x, byte %d: %x, %x, not %x", key, from, i, zeros[i], ones[i], b)
					}
				}
			}
		}
	})
}

// P4.2: texts of many blocks, past two of the counter's bytes' greatest.
func TestTurnLong(t *testing.T) {
	each(t, func(t *testing.T, n int) {
		for _, length := range []int{api.MaxPlain - 1, api.MaxPlain, api.MaxPlain + 1, 1<<20 + 16*1000 + 5} {
			holds(t, drawn(n, n), counter(drawn(0, 12), 0), drawn(length, length))
			holds(t, drawn(n, n), counter(drawn(0, 12), math.MaxUint32-3000), drawn(length, length))
		}
	})
}

// P4.2: as the library has it, where the counter's number does not go past its greatest: counter mode, and GCM's own.
func TestTurnAsTheLibrary(t *testing.T) {
	each(t, func(t *testing.T, n int) {
		for i, length := range append([]int{5000}, lengths...) {
			key, text, want := drawn(i, n), drawn(length, length), make([]byte, length)
			for _, from := range [][16]byte{counter(drawn(i, 12), 0xfffe), counter(all(255, 12), math.MaxUint32-1000)} {
				cipher.NewCTR(other(t, key), from[:]).XORKeyStream(want, text)
				if got := turn(t, made(t, key), from, text); !bytes.Equal(got, want) {
					t.Errorf("key %x, counter %x, %d bytes: otherwise", key, from, length)
				}
			}
			gcm, err := cipher.NewGCM(other(t, key))
			if err != nil {
				t.Fatal(err)
			}
			nonce := drawn(length, 12)
			sealed := gcm.Seal(nil, nonce, text, nil)
			if got := turn(t, made(t, key), counter(nonce, 2), text); !bytes.Equal(got, sealed[:length]) {
				t.Errorf("key %x, nonce %x, %d bytes: otherwise than GCM's", key, nonce, length)
			}
		}
	})
}

// P4.2: no text at all, nil ones and ones of no bytes, however many, are turned to none, without an error.
func TestTurnNoBytes(t *testing.T) {
	each(t, func(t *testing.T, n int) {
		c := made(t, drawn(n, n))
		for _, from := range counters() {
			if b, e := ctr.Turn(c, from); len(b) != 0 || e != api.OK {
				t.Errorf("counter %x, no text: %x, %d", from, b, e)
			}
			for _, l := range [][][]byte{nil, {}, {nil}, {{}}, {nil, nil}, {{}, nil, {}}, make([][]byte, 1000)} {
				if b, e := ctr.Turn(c, from, l...); len(b) != 0 || e != api.OK {
					t.Errorf("counter %x, %d texts of no bytes: %x, %d", from, len(l), b, e)
				}
			}
		}
	})
}

// P4.2: texts cut in unlike ways are one text: in two at each place, in three, byte by byte, and with none between.
func TestTurnCuts(t *testing.T) {
	each(t, func(t *testing.T, n int) {
		key, from, text := drawn(n, n), counter(drawn(0, 12), math.MaxUint32-1), drawn(1, 67)
		c, want := made(t, key), turned(t, key, from, text)
		holds := func(l ...[]byte) {
			t.Helper()
			if got := turn(t, c, from, l...); !bytes.Equal(got, want) {
				t.Errorf("texts %x: %x, not %x", l, got, want)
			}
		}
		for i := range len(text) + 1 {
			holds(text[:i], text[i:])
			holds(nil, text[:i], []byte{}, nil, text[i:], []byte{})
			for j := i; j <= len(text); j++ {
				holds(text[:i], text[i:j], text[j:])
			}
		}
		for size := 1; size <= len(text); size++ {
			holds(slices.Collect(slices.Chunk(text, size))...)
		}
	})
}

// P4.2: longer texts, cut at drawn places.
func TestTurnDrawnCuts(t *testing.T) {
	each(t, func(t *testing.T, n int) {
		for i := range 300 {
			r := rand.New(rand.NewSource(int64(i)))
			key, from, text := drawn(i, n), counter(drawn(i, 12), r.Uint32()), drawn(i, r.Intn(900))
			var l [][]byte
			for rest := text; len(rest) > 0; {
				k := r.Intn(min(len(rest), 40) + 1)
				l, rest = append(l, rest[:k]), rest[k:]
			}
			if got := turn(t, made(t, key), from, l...); !bytes.Equal(got, turned(t, key, from, text)) {
				t.Errorf("seed %d: %d bytes in %d texts: otherwise", i, len(text), len(l))
			}
		}
	})
}

// P4.2: one text handed in more than once, and texts that overlap, stand one behind the other.
func TestTurnSharedTexts(t *testing.T) {
	each(t, func(t *testing.T, n int) {
		key, from, text := drawn(n, n), counter(drawn(0, 12), 255), drawn(1, 40)
		for _, l := range [][][]byte{{text, text}, {text, text[3:], text[:20], text}, {text[:17], text[1:18], text[:17]}} {
			if got := turn(t, made(t, key), from, l...); !bytes.Equal(got, turned(t, key, from, bytes.Join(l, nil))) {
				t.Errorf("texts %x: %x", l, got)
			}
		}
	})
}

// P4.2: each bit of the counter and of the key makes a difference; each bit of the text to that bit alone.
func TestTurnEachBitCounts(t *testing.T) {
	each(t, func(t *testing.T, n int) {
		key, from, text := drawn(n, n), counter(drawn(0, 12), 7), drawn(1, 33)
		want := turn(t, made(t, key), from, text)
		for bit := range 8 * 16 {
			x := from
			x[bit/8] ^= 1 << (bit % 8)
			if bytes.Equal(turn(t, made(t, key), x, text), want) {
				t.Errorf("counter's bit %d: no difference", bit)
			}
		}
		for bit := range 8 * n {
			x := bytes.Clone(key)
			x[bit/8] ^= 1 << (bit % 8)
			if bytes.Equal(turn(t, made(t, x), from, text), want) {
				t.Errorf("key's bit %d: no difference", bit)
			}
		}
		for bit := range 8 * len(text) {
			x, y := bytes.Clone(text), bytes.Clone(want)
			x[bit/8] ^= 1 << (bit % 8)
			y[bit/8] ^= 1 << (bit % 8)
			if got := turn(t, made(t, key), from, x); !bytes.Equal(got, y) {
				t.Errorf("text's bit %d: %x, not %x", bit, got, y)
			}
		}
	})
}

// P4.3: what is turned twice is as it was, cut otherwise or not.
func TestTurnTwice(t *testing.T) {
	each(t, func(t *testing.T, n int) {
		for i, from := range counters() {
			c := made(t, drawn(i, n))
			for _, length := range lengths {
				text := drawn(length, length)
				once := turn(t, c, from, text[:length/3], text[length/3:])
				if length > 15 && bytes.Equal(once, text) {
					t.Errorf("counter %x, %d bytes: as they were, turned once", from, length)
				}
				if twice := turn(t, c, from, once[:length/2], once[length/2:]); !bytes.Equal(twice, text) {
					t.Errorf("counter %x, %d bytes: %x, not %x", from, length, twice, text)
				}
			}
		}
	})
}

// P4.3: bytes from a block's place on are turned from that block's counter on, also past the number's greatest.
func TestTurnFromABlockOn(t *testing.T) {
	each(t, func(t *testing.T, n int) {
		text := drawn(n, 16*9+5)
		for i, from := range counters() {
			c := made(t, drawn(i, n))
			whole, at := turn(t, c, from, text), from
			for place := 0; place <= len(text); place += 16 {
				if got := turn(t, c, at, text[place:]); !bytes.Equal(got, whole[place:]) {
					t.Errorf("from %x, the bytes from %d on, from %x: %x, not %x", from, place, at, got, whole[place:])
				}
				at = ctr.Next(at)
			}
		}
	})
}

// P4.3: block by block, each from its own counter on, a text is turned as it is whole; so are the blocks of Blocks.
func TestTurnBlockByBlock(t *testing.T) {
	each(t, func(t *testing.T, n int) {
		text := drawn(n, 16*9+5)
		for i, from := range counters() {
			c, at := made(t, drawn(i, n)), from
			var got []byte
			for part := range slices.Chunk(text, 16) {
				got = append(got, turn(t, c, at, part)...)
				at = ctr.Next(at)
			}
			if want := turn(t, c, from, text); !bytes.Equal(got, want) {
				t.Errorf("from %x: %x, not %x", from, got, want)
			}
			at = from
			for _, b := range first(ctr.Blocks(c, from), 6) {
				if one := first(ctr.Blocks(c, at), 1); one[0] != b {
					t.Errorf("from %x, the block of %x: %x, not %x", from, at, one[0], b)
				}
				at = ctr.Next(at)
			}
		}
	})
}

// P4.3: past the number's greatest the first twelve bytes stay as they are, so that it goes on from a number 0 behind them.
func TestTurnPastTheGreatest(t *testing.T) {
	each(t, func(t *testing.T, n int) {
		for i, head := range [][]byte{all(0, 12), all(255, 12), drawn(0, 12), append(all(1, 11), 255)} {
			c, text := made(t, drawn(i, n)), drawn(i, 100)
			for ahead := range 5 {
				whole := turn(t, c, counter(head, -uint32(ahead)), text)
				if rest := turn(t, c, counter(head, 0), text[16*ahead:]); !bytes.Equal(rest, whole[16*ahead:]) {
					t.Errorf("head %x, %d blocks ahead of it: %x, not %x", head, ahead, whole[16*ahead:], rest)
				}
			}
		}
	})
}

// R3: the texts, their list, what is about them in their memory, and the counter are left as they were.
func TestLeftAsItWas(t *testing.T) {
	each(t, func(t *testing.T, n int) {
		for _, length := range lengths {
			key, from, room := drawn(n, n), counter(drawn(0, 12), math.MaxUint32), drawn(length, 3*length+64)
			wasKey, wasFrom, wasRoom := bytes.Clone(key), from, bytes.Clone(room)
			texts := [][]byte{room[32 : 32+length/2], nil, room[32+length/2 : 32+length], {1, 2, 3}, room[32:32]}
			wasTexts := slices.Clone(texts)
			l := texts[:4]
			c := made(t, key)
			clear(turn(t, c, from, l...))
			first(ctr.Blocks(c, from), 3)
			ctr.Next(from)
			ctr.Turn(nil, from, l...)
			if !bytes.Equal(key, wasKey) || from != wasFrom || !bytes.Equal(room, wasRoom) || !bytes.Equal(texts[3], []byte{1, 2, 3}) {
				t.Errorf("%d bytes: written into", length)
			}
			for i, text := range texts {
				if len(text) != len(wasTexts[i]) || cap(text) != cap(wasTexts[i]) || (text == nil) != (wasTexts[i] == nil) || len(text) > 0 && &text[0] != &wasTexts[i][0] {
					t.Errorf("%d bytes: text %d of the list is another", length, i)
				}
			}
		}
	})
}

// R3: what is answered is in memory of its own: neither a text's, be it one alone, nor another answer's.
func TestTurnedIsItsOwn(t *testing.T) {
	each(t, func(t *testing.T, n int) {
		for _, length := range lengths {
			c, from, text := made(t, drawn(n, n)), counter(drawn(0, 12), 0), drawn(length, length)
			got, again := turn(t, c, from, text), turn(t, c, from, text)
			want := bytes.Clone(got)
			clear(again[:cap(again)])
			clear(text)
			if !bytes.Equal(got, want) {
				t.Errorf("%d bytes: otherwise, when a text and another answer were written into", length)
			}
			clear(got[:cap(got)])
			if b := turn(t, c, from, drawn(length, length)); !bytes.Equal(b, want) {
				t.Errorf("%d bytes: %x, not %x, when an answer was written into", length, b, want)
			}
		}
	})
}

// R5: what was asked ahead, or is asked meanwhile, makes no difference, nor what other ciphers there are.
func TestNothingElseCounts(t *testing.T) {
	keys := [][]byte{drawn(0, 16), drawn(0, 32), drawn(1, 16), drawn(0, 16)}
	var l []*aes.Cipher
	for _, key := range keys {
		l = append(l, made(t, key))
	}
	from, text := counter(drawn(0, 12), math.MaxUint32-1), drawn(0, 100)
	for range ctr.Blocks(l[0], from) {
		for _, i := range rand.New(rand.NewSource(1)).Perm(40) {
			if got := turn(t, l[i%4], behind(from, i), text); !bytes.Equal(got, turned(t, keys[i%4], behind(from, i), text)) {
				t.Errorf("key %x, counter %d: %x", keys[i%4], i, got)
			}
			l[0].Seal([16]byte{})
		}
		break
	}
}

// R5: goroutines, each with a cipher of its own, make no difference to one another.
func TestMeanwhile(t *testing.T) {
	var group sync.WaitGroup
	for i := range 8 {
		group.Go(func() {
			key, text := drawn(i, keyBytes[i%2]), drawn(i, 500)
			c, e := aes.New(key)
			for j := range 50 {
				from := counter(drawn(j, 12), uint32(i-j))
				got, ee := ctr.Turn(c, from, text[:j], text[j:])
				if e != api.OK || ee != api.OK || !bytes.Equal(got, turned(t, key, from, text)) {
					t.Errorf("goroutine %d, counter %x: otherwise", i, from)
				}
				if b := first(ctr.Blocks(c, from), 4); !slices.Equal(b, stream(t, key, from, 4)) {
					t.Errorf("goroutine %d, counter %x: blocks %x", i, from, b)
				}
			}
		})
	}
	group.Wait()
}
