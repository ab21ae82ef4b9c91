package sha_test

import (
	"bytes"
	"crypto/sha256"
	"crypto/sha512"
	"encoding/hex"
	stdhash "hash"
	"math/rand"
	"slices"
	"strings"
	"sync"
	"testing"

	"hailer/sha"
)

// hash is one of the two, with another maker's sum of the same name to hold it against.
type hash struct {
	name  string
	block int
	sum   func(l ...[]byte) string
	other func(l ...[]byte) string
}

func hashes() []hash {
	return []hash{
		{
			"SHA-256", 64,
			func(l ...[]byte) string { b := sha.Sum256(l...); return hex.EncodeToString(b[:]) },
			func(l ...[]byte) string { return summed(sha256.New(), l) },
		},
		{
			"SHA-512", 128,
			func(l ...[]byte) string { b := sha.Sum512(l...); return hex.EncodeToString(b[:]) },
			func(l ...[]byte) string { return summed(sha512.New(), l) },
		},
	}
}

// summed is the sum of what is written, as the library has it.
func summed(h stdhash.Hash, l [][]byte) string {
	for _, b := range l {
		h.Write(b)
	}
	return hex.EncodeToString(h.Sum(nil))
}

// each runs a test of either hash.
func each(t *testing.T, test func(t *testing.T, h hash)) {
	for _, h := range hashes() {
		t.Run(h.name, func(t *testing.T) { test(t, h) })
	}
}

// drawn are n bytes, the same ones at each run.
func drawn(n int) []byte {
	b := make([]byte, n)
	rand.New(rand.NewSource(int64(n) + 1)).Read(b)
	return b
}

// P1.1: the chapter's examples, and published sums of other texts.
func TestExamples(t *testing.T) {
	long := "abcdefghbcdefghicdefghijdefghijkefghijklfghijklmghijklmnhijklmnoijklmnopjklmnopqklmnopqrlmnopqrsmnopqrstnopqrstu"
	for _, x := range []struct{ text, sum256, sum512 string }{
		{
			"abc",
			"ba7816bf8f01cfea414140de5dae2223b00361a396177a9cb410ff61f20015ad",
			"ddaf35a193617abacc417349ae20413112e6fa4e89a97ea20a9eeee64b55d39a2192992a274fc1a836ba3c23a3feebbd454d4423643ce80e2a9ac94fa54ca49f",
		}, {
			"",
			"e3b0c44298fc1c149afbf4c8996fb92427ae41e4649b934ca495991b7852b855",
			"cf83e1357eefb8bdf1542850d66d8007d620e4050b5715dc83f4a921d36ce9ce47d0d13c5d85f2b0ff8318d2877eec2f63b931bd47417a81a538327af927da3e",
		}, {
			long,
			"cf5b16a778af8380036ce59e7b0492370b249b11e8f07a51afac45037afee9d1",
			"8e959b75dae313da8cf4f72814fc143f8f7779c6eb9f7fa17299aeadb6889018501d289e4900f7e4331b99dec4b5433ac7d329eeb6dd26545e96e55b874be909",
		}, {
			strings.Repeat("a", 1000000),
			"cdc76e5c9914fb9281a1c7e284d73e67f1809a48a497200e046d39ccc7112cd0",
			"e718483d0ce769644e2e42c7bc15b4638e1f98b13b2044285632a803afa973ebde0ff244877ea60a4cb0432ce577c31beb009c5c2c49aa2e4eadb217ad8cc09b",
		},
	} {
		a, b := sha.Sum256([]byte(x.text)), sha.Sum512([]byte(x.text))
		if hex.EncodeToString(a[:]) != x.sum256 {
			t.Errorf("Sum256 of %d bytes: %x", len(x.text), a)
		}
		if hex.EncodeToString(b[:]) != x.sum512 {
			t.Errorf("Sum512 of %d bytes: %x", len(x.text), b)
		}
	}
}

// P1.1: each number of bytes up to some blocks, and so each edge at which the byte 128, or the length, has no room in a block any more.
func TestBlockEdges(t *testing.T) {
	each(t, func(t *testing.T, h hash) {
		for n := range 5*h.block + 2 {
			for _, text := range [][]byte{make([]byte, n), bytes.Repeat([]byte{255}, n), drawn(n)} {
				if h.sum(text) != h.other(text) {
					t.Errorf("%d bytes, %x ..", n, text[:min(n, 4)])
				}
			}
		}
	})
}

// P1.1: at 2^5, 2^13, 2^21 bytes the number of bits has a byte more.
func TestLengthEdges(t *testing.T) {
	each(t, func(t *testing.T, h hash) {
		for _, edge := range []int{1 << 5, 1 << 13, 1 << 21} {
			for n := edge - 2; n <= edge+2; n++ {
				if text := drawn(n); h.sum(text) != h.other(text) {
					t.Errorf("%d bytes", n)
				}
			}
		}
	})
}

// P1.1: and at 2^29 bytes, the last such edge within the limits.
func TestLengthOfFiveBytes(t *testing.T) {
	if testing.Short() {
		t.Skip("takes seconds")
	}
	piece := drawn(1 << 20)
	l := slices.Repeat([][]byte{piece}, 1<<9)
	for _, h := range hashes() {
		t.Run(h.name, func(t *testing.T) {
			t.Parallel()
			if h.sum(l...) != h.other(l...) {
				t.Error("2^29 bytes")
			}
		})
	}
}

// P1.1: each bit of a text makes a difference, and so does a byte 0 behind it.
func TestEachBitCounts(t *testing.T) {
	each(t, func(t *testing.T, h hash) {
		text := drawn(2*h.block + 1)
		seen := map[string]int{h.sum(text): -1, h.sum(text, []byte{0}): -2}
		for bit := range 8 * len(text) {
			text[bit/8] ^= 1 << (bit % 8)
			s := h.sum(text)
			if s != h.other(text) {
				t.Errorf("bit %d turned", bit)
			}
			if at, is := seen[s]; is {
				t.Errorf("bits %d and %d: one sum", at, bit)
			}
			seen[s] = bit
			text[bit/8] ^= 1 << (bit % 8)
		}
	})
}

// P1.1, R1: no texts, nil ones, and empty ones are the text of no bytes; between others they count for nothing.
func TestNoTexts(t *testing.T) {
	each(t, func(t *testing.T, h hash) {
		empty, text := h.other(), drawn(h.block+9)
		for i, l := range [][][]byte{nil, {}, {nil}, {{}}, {nil, nil}, {nil, {}, nil}, {text[:0]}, {text[9:9], nil}} {
			if h.sum(l...) != empty {
				t.Error("nothing, list", i)
			}
		}
		for i, l := range [][][]byte{{nil, text}, {text, nil}, {{}, text, {}}, {text[:3], nil, text[3:]}, {text[:h.block], nil, {}, text[h.block:], nil}} {
			if h.sum(l...) != h.other(text) {
				t.Error("a text among nothing, list", i)
			}
		}
	})
}

// P1.2: a text cut in two at each place, and in three about each edge of a block.
func TestCutInTwoAndThree(t *testing.T) {
	each(t, func(t *testing.T, h hash) {
		for _, n := range []int{1, 2, h.block - 17, h.block - 9, h.block - 1, h.block, h.block + 1, 2 * h.block, 3*h.block + 7} {
			text := drawn(n)
			whole := h.other(text)
			for at := range n + 1 {
				if h.sum(text[:at], text[at:]) != whole {
					t.Errorf("%d bytes, cut at %d", n, at)
				}
				for to := at; to <= min(at+h.block+1, n); to++ {
					if h.sum(text[:at], text[at:to], text[to:]) != whole {
						t.Errorf("%d bytes, cut at %d and %d", n, at, to)
					}
				}
			}
		}
	})
}

// P1.2: a text cut in many pieces: of one length each, and of lengths that are drawn.
func TestCutInMany(t *testing.T) {
	each(t, func(t *testing.T, h hash) {
		for _, n := range []int{h.block, 3*h.block - 1, 10*h.block + 5} {
			text := drawn(n)
			whole := h.other(text)
			for size := 1; size <= 2*h.block+1; size++ {
				if h.sum(slices.Collect(slices.Chunk(text, size))...) != whole {
					t.Errorf("%d bytes, %d a piece", n, size)
				}
			}
			r := rand.New(rand.NewSource(int64(n)))
			for try := range 200 {
				if h.sum(cut(r, text)...) != whole {
					t.Errorf("%d bytes, cut by chance, try %d", n, try)
				}
			}
		}
	})
}

// cut cuts a text into pieces, some of them empty or nil.
func cut(r *rand.Rand, text []byte) (l [][]byte) {
	for len(text) > 0 {
		if n := r.Intn(min(len(text), 150) + 1); n > 0 || r.Intn(2) > 0 {
			l, text = append(l, text[:n]), text[n:]
		} else {
			l = append(l, nil)
		}
	}
	return l
}

// P1.2: pieces may share their memory.
func TestPiecesThatOverlap(t *testing.T) {
	each(t, func(t *testing.T, h hash) {
		text := drawn(3 * h.block)
		var joined []byte
		var l [][]byte
		for i := range h.block {
			l = append(l, text[i:2*h.block+i], text)
			joined = append(append(joined, text[i:2*h.block+i]...), text...)
		}
		if h.sum(l...) != h.other(joined) {
			t.Error("pieces that overlap")
		}
	})
}

// R3: neither the texts, nor the bytes behind them, nor the list of them are otherwise.
func TestLeftAsItWas(t *testing.T) {
	each(t, func(t *testing.T, h hash) {
		for n := range 2*h.block + 2 {
			room := drawn(n + 3*h.block)
			was := bytes.Clone(room)
			l := [][]byte{room[:n/2], nil, room[n/2 : n]}
			h.sum(l...)
			if !bytes.Equal(room, was) {
				t.Errorf("%d bytes: written into", n)
			}
			if len(l) != 3 || len(l[0]) != n/2 || l[1] != nil || len(l[2]) != n-n/2 || n > 1 && (&l[0][0] != &room[0] || &l[2][0] != &room[n/2]) {
				t.Errorf("%d bytes: the list is another one", n)
			}
		}
	})
}

// R5: what was summed ahead, or is meanwhile, makes no difference.
func TestNothingIsKept(t *testing.T) {
	each(t, func(t *testing.T, h hash) {
		var all sync.WaitGroup
		for i := range 8 {
			all.Go(func() {
				for n := range 300 {
					text := drawn(n*7 + i)
					if h.sum(text) != h.other(text) {
						t.Errorf("%d bytes", len(text))
					}
				}
			})
		}
		all.Wait()
	})
}
