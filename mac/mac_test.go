package mac_test

import (
	"bytes"
	"crypto/hkdf"
	"crypto/hmac"
	"crypto/sha256"
	"crypto/sha512"
	"encoding/hex"
	stdhash "hash"
	"math"
	"math/rand"
	"slices"
	"strings"
	"sync"
	"testing"
	"time"

	"hailer/api"
	"hailer/mac"
)

// hash is one of the two, with another maker's hash of the same name to hold it against.
type hash struct {
	name       string
	h          mac.Hash
	block, sum int
	other      func() stdhash.Hash
}

func hashes() []hash {
	return []hash{
		{"H256", mac.H256, 64, 32, sha256.New},
		{"H512", mac.H512, 128, 64, sha512.New},
	}
}

// each runs a test of either hash.
func each(t *testing.T, test func(t *testing.T, h hash)) {
	for _, h := range hashes() {
		t.Run(h.name, func(t *testing.T) { test(t, h) })
	}
}

// eachOther runs a test of each number that is no hash.
func eachOther(test func(h mac.Hash)) {
	for n := range 256 {
		if h := mac.Hash(n); h != mac.H256 && h != mac.H512 {
			test(h)
		}
	}
}

// mac is the MAC, as the library has it.
func (h hash) mac(key, text []byte) []byte {
	m := hmac.New(h.other, key)
	m.Write(text)
	return m.Sum(nil)
}

// expanded are the expanded bytes, as the library has them.
func (h hash) expanded(t *testing.T, secret, info []byte, n int) []byte {
	t.Helper()
	b, err := hkdf.Expand(h.other, secret, string(info), n)
	if err != nil {
		t.Fatal(err)
	}
	return b
}

// all are all the expanded bytes that there are.
func (h hash) all(t *testing.T, secret, info []byte) []byte {
	t.Helper()
	return h.expanded(t, secret, info, 255*h.sum)
}

// drawn are n bytes, the same ones at each run.
func drawn(n int) []byte {
	b := make([]byte, n)
	rand.New(rand.NewSource(int64(n) + 1)).Read(b)
	return b
}

// unhex are the bytes written so, to the base 16.
func unhex(t *testing.T, s string) []byte {
	t.Helper()
	b, err := hex.DecodeString(s)
	if err != nil {
		t.Fatal(err)
	}
	return b
}

// counted are the bytes from first on, one more each.
func counted(first byte, n int) []byte {
	b := make([]byte, n)
	for i := range b {
		b[i] = first + byte(i)
	}
	return b
}

// keyLengths are those that the promises name, and others about them.
func (h hash) keyLengths() []int {
	return []int{0, 1, 2, 20, h.sum - 1, h.sum, h.sum + 1, h.block - 1, h.block, h.block + 1, 2*h.block - 1, 2 * h.block, 2*h.block + 1, 1000}
}

// The document's numbers of the hashes.
func TestHashNumbers(t *testing.T) {
	if mac.H256 != 1 || mac.H512 != 2 {
		t.Error(mac.H256, mac.H512)
	}
}

// P2.1: the chapter's examples, and published MACs of other texts (RFC 4231).
func TestMacExamples(t *testing.T) {
	long := bytes.Repeat([]byte{0xaa}, 131)
	for _, x := range []struct {
		key            []byte
		text           string
		mac256, mac512 string
	}{
		{
			bytes.Repeat([]byte{0x0b}, 20), "Hi There",
			"b0344c61d8db38535ca8afceaf0bf12b881dc200c9833da726e9376c2e32cff7",
			"87aa7cdea5ef619d4ff0b4241a1d6cb02379f4e2ce4ec2787ad0b30545e17cdedaa833b7d6b8a702038b274eaea3f4e4be9d914eeb61f1702e696c203a126854",
		}, {
			[]byte("Jefe"), "what do ya want for nothing?",
			"5bdcc146bf60754e6a042426089575c75a003f089d2739839dec58b964ec3843",
			"164b7a7bfcf819e2e395fbe73b56e0a387bd64222e831fd610270cd7ea2505549758bf75c05a994a6d034f65f8f0e6fdcaeab1a34d4a6b4b636e070a38bce737",
		}, {
			bytes.Repeat([]byte{0xaa}, 20), strings.Repeat("\xdd", 50),
			"773ea91e36800e46854db8ebd09181a72959098b3ef8c122d9635514ced565fe",
			"fa73b0089d56a284efb0f0756c890be9b1b5dbdd8ee81a3655f83e33b2279d39bf3e848279a722c806b485a47e67c807b946a337bee8942674278859e13292fb",
		}, {
			counted(1, 25), strings.Repeat("\xcd", 50),
			"82558a389a443c0ea4cc819899f2083a85f0faa3e578f8077a2e3ff46729665b",
			"b0ba465637458c6990e5a8c5f61d4af7e576d97ff94b872de76f8050361ee3dba91ca5c11aa25eb4d679275cc5788063a5f19741120c4f2de2adebeb10a298dd",
		}, {
			long, "Test Using Larger Than Block-Size Key - Hash Key First",
			"60e431591ee0b67f0d8a26aacbf5b77f8e0bc6213728c5140546040f0ee37f54",
			"80b24263c7c1a3ebb71493c1dd7be8b49b46d1f41b4aeec1121b013783f8f3526b56d037e05f2598bd0fd2215d6a1e5295e64f73f63f0aec8b915a985d786598",
		}, {
			long, "This is a test using a larger than block-size key and a larger than block-size data. The key needs to be hashed before being used by the HMAC algorithm.",
			"9b09ffa71b942fcb27635fbcd5b0e944bfdc63644f0713938a7f51535c3a35e2",
			"e37b6a775dc87dbaa4dfa9f96e5e3ffddebd71f8867289865df5a32d20cdc944b6022cac3c4982b10d5eeb55c3e4de15134676fb6de0446065c97440fa8c6a58",
		},
	} {
		if b := mac.Mac(mac.H256, x.key, []byte(x.text)); !bytes.Equal(b, unhex(t, x.mac256)) {
			t.Errorf("H256, %q: %x", x.text, b)
		}
		if b := mac.Mac(mac.H512, x.key, []byte(x.text)); !bytes.Equal(b, unhex(t, x.mac512)) {
			t.Errorf("H512, %q: %x", x.text, b)
		}
	}
}

// P2.1, P2.2: the chapter's example, and published ones (RFC 5869).
func TestExpandExamples(t *testing.T) {
	for i, x := range []struct {
		ikm, salt, info     []byte
		extracted, expanded string
	}{
		{
			bytes.Repeat([]byte{0x0b}, 22), counted(0, 13), counted(0xf0, 10),
			"077709362c2e32df0ddc3f0dc47bba6390b6c73bb50f9c3122ec844ad7c2b3e5",
			"3cb25f25faacd57a90434f64d0362f2a2d2d0a90cf1a5a4c5db02d56ecc4c5bf34007208d5b887185865",
		}, {
			counted(0, 80), counted(0x60, 80), counted(0xb0, 80),
			"06a6b88c5853361a06104c9ceb35b45cef760014904671014a193f40c15fc244",
			"b11e398dc80327a1c8e7f78c596a49344f012eda2d4efad8a050cc4c19afa97c59045a99cac7827271cb41c65e590e09da3275600c2f09b8367793a9aca3db71cc30c58179ec3e87c14c01d5c1f3434f1d87",
		}, {
			bytes.Repeat([]byte{0x0b}, 22), nil, nil,
			"19ef24a32c717b167f33a91d6f648bdf96596776afdb6377ac434c1c293ccb04",
			"8da4e775a563c18f715f802a063c5a31b8a11f5c5ee1879ec3454e5f3c738d2d9d201395faa4b61a96c8",
		},
	} {
		secret := mac.Extract(mac.H256, x.salt, x.ikm)
		if !bytes.Equal(secret, unhex(t, x.extracted)) {
			t.Errorf("example %d: extracted %x", i, secret)
		}
		want := unhex(t, x.expanded)
		if b, e := mac.Expand(mac.H256, secret, x.info, len(want)); e != api.OK || !bytes.Equal(b, want) {
			t.Errorf("example %d: expanded %x, %d", i, b, e)
		}
	}
}

// P2.1: keys of each number of bytes up to some blocks.
func TestMacKeys(t *testing.T) {
	each(t, func(t *testing.T, h hash) {
		for n := range 3*h.block + 2 {
			for _, key := range [][]byte{make([]byte, n), bytes.Repeat([]byte{255}, n), drawn(n)} {
				for _, text := range [][]byte{nil, []byte("Hi There"), drawn(2*h.block + 1)} {
					if !bytes.Equal(mac.Mac(h.h, key, text), h.mac(key, text)) {
						t.Errorf("a key of %d bytes, %x .., a text of %d", n, key[:min(n, 4)], len(text))
					}
				}
			}
		}
	})
}

// P2.1: texts of each number of bytes up to some blocks, and a long one.
func TestMacTexts(t *testing.T) {
	each(t, func(t *testing.T, h hash) {
		for _, length := range h.keyLengths() {
			key := drawn(length)
			for n := range 3*h.block + 2 {
				if text := drawn(n); !bytes.Equal(mac.Mac(h.h, key, text), h.mac(key, text)) {
					t.Errorf("a key of %d bytes, a text of %d", length, n)
				}
			}
			if text := drawn(1 << 16); !bytes.Equal(mac.Mac(h.h, key, text), h.mac(key, text)) {
				t.Errorf("a key of %d bytes, a long text", length)
			}
		}
	})
}

// P2.1: a MAC has a sum's bytes.
func TestMacLength(t *testing.T) {
	each(t, func(t *testing.T, h hash) {
		if b := mac.Mac(h.h, nil); len(b) != h.sum {
			t.Error(len(b))
		}
	})
}

// P2.1: how a text is cut makes no difference; no texts, nil ones, and empty ones are the text of no bytes.
func TestMacCuts(t *testing.T) {
	each(t, func(t *testing.T, h hash) {
		key, text := drawn(20), drawn(2*h.block+9)
		whole, empty := h.mac(key, text), h.mac(key, nil)
		for at := range len(text) + 1 {
			if !bytes.Equal(mac.Mac(h.h, key, text[:at], text[at:]), whole) {
				t.Errorf("cut at %d", at)
			}
			if !bytes.Equal(mac.Mac(h.h, key, nil, text[:at/2], []byte{}, text[at/2:at], nil, text[at:], nil), whole) {
				t.Errorf("cut at %d and %d", at/2, at)
			}
		}
		for size := 1; size <= len(text); size++ {
			if !bytes.Equal(mac.Mac(h.h, key, slices.Collect(slices.Chunk(text, size))...), whole) {
				t.Errorf("%d bytes a piece", size)
			}
		}
		for i, l := range [][][]byte{nil, {}, {nil}, {{}}, {nil, nil}, {nil, {}, nil}, {text[:0]}} {
			if !bytes.Equal(mac.Mac(h.h, key, l...), empty) {
				t.Error("nothing, list", i)
			}
		}
	})
}

// P2.1: a nil key is the key of no bytes.
func TestMacNoKey(t *testing.T) {
	each(t, func(t *testing.T, h hash) {
		text := drawn(99)
		want := h.mac(nil, text)
		if !bytes.Equal(mac.Mac(h.h, nil, text), want) || !bytes.Equal(mac.Mac(h.h, []byte{}, text), want) {
			t.Error("no key")
		}
	})
}

// P2.1: each bit of the key, and of the text, makes a difference; so does where the one ends and the other begins, and the hash.
func TestMacEachBitCounts(t *testing.T) {
	each(t, func(t *testing.T, h hash) {
		for _, length := range []int{20, h.block, h.block + 1} {
			both := drawn(length + 33)
			key, text := both[:length], both[length:]
			seen := map[string]int{string(mac.Mac(h.h, key, text)): -1}
			for bit := range 8 * len(both) {
				both[bit/8] ^= 1 << (bit % 8)
				m := string(mac.Mac(h.h, key, text))
				if at, is := seen[m]; is {
					t.Errorf("a key of %d bytes, bits %d and %d: one MAC", length, at, bit)
				}
				seen[m] = bit
				both[bit/8] ^= 1 << (bit % 8)
			}
			if _, is := seen[string(mac.Mac(h.h, both[:length-1], both[length-1:]))]; is {
				t.Errorf("a key of %d bytes, one of them in the text: one MAC", length)
			}
		}
	})
}

// P2.1: extracted is the MAC of ikm under salt, not of salt under ikm.
func TestExtract(t *testing.T) {
	each(t, func(t *testing.T, h hash) {
		for _, s := range h.keyLengths() {
			for _, n := range h.keyLengths() {
				salt, ikm := drawn(s), drawn(n + 1)[1:]
				if b := mac.Extract(h.h, salt, ikm); !bytes.Equal(b, h.mac(salt, ikm)) {
					t.Errorf("a salt of %d bytes, %d: %x", s, n, b)
				}
			}
		}
		if !bytes.Equal(mac.Extract(h.h, nil, nil), h.mac(nil, nil)) || !bytes.Equal(mac.Extract(h.h, []byte{}, []byte{}), h.mac(nil, nil)) {
			t.Error("of nothing")
		}
		salt, ikm := []byte("salt"), []byte("ikm")
		if bytes.Equal(mac.Extract(h.h, salt, ikm), mac.Extract(h.h, ikm, salt)) {
			t.Error("salt and ikm make no difference")
		}
	})
}

// P2.1, R2: of another hash there is no MAC, whatever the key and the text.
func TestMacOfAnotherHash(t *testing.T) {
	eachOther(func(h mac.Hash) {
		for _, b := range [][]byte{nil, {}, []byte("Hi There"), drawn(64), drawn(65), drawn(129)} {
			if m := mac.Mac(h, b, b); m != nil {
				t.Errorf("Mac of hash %d: %x", h, m)
			}
			if m := mac.Mac(h, b); m != nil {
				t.Errorf("Mac of hash %d, no text: %x", h, m)
			}
			if m := mac.Extract(h, b, b); m != nil {
				t.Errorf("Extract of hash %d: %x", h, m)
			}
		}
	})
}

// P2.2: secrets, and infos, of unlike lengths; n at and about each sum's end.
func TestExpand(t *testing.T) {
	each(t, func(t *testing.T, h hash) {
		for _, s := range h.keyLengths() {
			for _, i := range []int{0, 1, 10, h.block - h.sum - 9, h.block - 9, h.block, 1000} {
				secret, info := drawn(s), drawn(i + 1)[1:]
				for _, n := range []int{1, 2, h.sum - 1, h.sum, h.sum + 1, 2*h.sum - 1, 2 * h.sum, 2*h.sum + 1, 5*h.sum + 7} {
					b, e := mac.Expand(h.h, secret, info, n)
					if e != api.OK || !bytes.Equal(b, h.expanded(t, secret, info, n)) {
						t.Errorf("a secret of %d bytes, an info of %d, n %d: %d", s, i, n, e)
					}
				}
			}
		}
	})
}

// P2.2: the first sum is the MAC of the info and a byte 1; the next of the first, the info and a byte 2; the last one that there is ends in a byte 255.
func TestExpandSums(t *testing.T) {
	each(t, func(t *testing.T, h hash) {
		secret, info := drawn(h.sum), []byte("info")
		var want, last []byte
		for n := range 255 {
			last = h.mac(secret, slices.Concat(last, info, []byte{byte(n + 1)}))
			want = append(want, last...)
		}
		if b, e := mac.Expand(h.h, secret, info, 255*h.sum); e != api.OK || !bytes.Equal(b, want) {
			t.Error("255 sums:", e)
		}
	})
}

// P2.2: a nil secret, and a nil info, are those of no bytes.
func TestExpandOfNothing(t *testing.T) {
	each(t, func(t *testing.T, h hash) {
		for _, secret := range [][]byte{nil, {}} {
			for _, info := range [][]byte{nil, {}} {
				b, e := mac.Expand(h.h, secret, info, 3*h.sum)
				if e != api.OK || !bytes.Equal(b, h.expanded(t, nil, nil, 3*h.sum)) {
					t.Error(secret == nil, info == nil, e)
				}
			}
		}
	})
}

// P2.2: n from 1 to 255 sums' bytes, and not one less nor more.
func TestExpandBounds(t *testing.T) {
	each(t, func(t *testing.T, h hash) {
		secret, info := drawn(h.sum), []byte("info")
		most := 255 * h.sum
		for _, n := range []int{1, 2, h.sum - 1, h.sum, h.sum + 1, 254 * h.sum, 254*h.sum + 1, most - 1, most} {
			b, e := mac.Expand(h.h, secret, info, n)
			if e != api.OK || len(b) != n || !bytes.Equal(b, h.all(t, secret, info)[:n]) {
				t.Errorf("n %d: %d bytes, %d", n, len(b), e)
			}
		}
		for _, n := range []int{
			0, -1, -2, -h.sum, -most, math.MinInt32, math.MinInt, math.MinInt + 1,
			most + 1, most + 2, 256 * h.sum, 257 * h.sum, 1 << 16, 1<<16 + 1, math.MaxInt32, 1 << 32, 1<<32 + 1, math.MaxInt - 1, math.MaxInt,
		} {
			if b, e := mac.Expand(h.h, secret, info, n); b != nil || e != api.ErrArg {
				t.Errorf("n %d: %d bytes, %d", n, len(b), e)
			}
		}
	})
}

// P2.2, R2: of another hash it is ErrArg, and no bytes, whatever n.
func TestExpandOfAnotherHash(t *testing.T) {
	eachOther(func(h mac.Hash) {
		for _, n := range []int{math.MinInt, -1, 0, 1, 16, 32, 64, 255 * 32, 255*32 + 1, 255 * 64, 255*64 + 1, math.MaxInt} {
			for _, x := range [][]byte{nil, {}, drawn(32), drawn(129)} {
				if b, e := mac.Expand(h, x, x, n); b != nil || e != api.ErrArg {
					t.Errorf("hash %d, n %d: %x, %d", h, n, b, e)
				}
			}
		}
	})
}

// P2.3: the same bytes, of each number of them, in one memory and in two.
func TestSame(t *testing.T) {
	for n := range 300 {
		for _, a := range [][]byte{make([]byte, n), bytes.Repeat([]byte{255}, n), drawn(n)} {
			if !mac.Same(a, a) || !mac.Same(a, bytes.Clone(a)) {
				t.Errorf("%d bytes, %x ..", n, a[:min(n, 4)])
			}
		}
	}
	for i, x := range [][2][]byte{{nil, nil}, {nil, {}}, {{}, nil}, {{}, {}}, {drawn(9)[:0], nil}} {
		if !mac.Same(x[0], x[1]) {
			t.Error("no bytes, pair", i)
		}
	}
}

// P2.3: a bit turned anywhere, and two bits of one place in their bytes, which would be as if nothing were if what is unlike were added up.
func TestSameBitTurned(t *testing.T) {
	for _, n := range []int{1, 2, 10, 32, 65} {
		a := drawn(n)
		b := bytes.Clone(a)
		for bit := range 8 * n {
			b[bit/8] ^= 1 << (bit % 8)
			if mac.Same(a, b) || mac.Same(b, a) {
				t.Errorf("%d bytes, bit %d turned", n, bit)
			}
			for at := range bit / 8 {
				b[at] ^= 1 << (bit % 8)
				if mac.Same(a, b) || mac.Same(b, a) {
					t.Errorf("%d bytes, bit %d of bytes %d and %d turned", n, bit%8, bit/8, at)
				}
				b[at] ^= 1 << (bit % 8)
			}
			b[bit/8] ^= 1 << (bit % 8)
		}
	}
}

// P2.3: each byte against each other one.
func TestSameOneByte(t *testing.T) {
	for x := range 256 {
		for y := range 256 {
			if mac.Same([]byte{byte(x)}, []byte{byte(y)}) != (x == y) {
				t.Error(x, y)
			}
		}
	}
}

// P2.3: bytes in another order, and sums that come to the same.
func TestSameOtherOrder(t *testing.T) {
	for _, x := range [][2][]byte{{{1, 2}, {2, 1}}, {{0, 3}, {1, 2}}, {{255, 1}, {0, 0}}, {{128, 128}, {0, 0}}, {{1, 2, 3}, {3, 2, 1}}} {
		if mac.Same(x[0], x[1]) {
			t.Error(x)
		}
	}
}

// P2.3: a byte more, or less, at either end, be it a 0.
func TestSameLengths(t *testing.T) {
	for n := range 140 {
		for _, a := range [][]byte{make([]byte, n), drawn(n)} {
			for _, more := range []byte{0, 1, 255} {
				ahead, behind := append([]byte{more}, a...), append(bytes.Clone(a), more)
				for _, b := range [][]byte{ahead, behind, append(bytes.Clone(a), a...)} {
					if len(b) != n && (mac.Same(a, b) || mac.Same(b, a)) {
						t.Errorf("%d bytes and %d", n, len(b))
					}
				}
			}
		}
	}
	a := make([]byte, 256)
	if mac.Same(a, nil) || mac.Same(nil, a) || mac.Same(nil, []byte{0}) {
		t.Error("256 bytes, or one, and none")
	}
}

// P2.3: all bytes are looked at, so that it takes as long wherever the first unlike one is. (Many bytes, the shortest of some tries, and a wide bound: one that stopped there would be some thousand times as fast.)
func TestSameLooksAtAll(t *testing.T) {
	a := drawn(1 << 22)
	took := func(at int) time.Duration {
		b := bytes.Clone(a)
		b[at] ^= 1
		least := time.Duration(math.MaxInt64)
		for range 5 {
			began := time.Now()
			if mac.Same(a, b) {
				t.Error("unlike at", at)
			}
			least = min(least, time.Since(began))
		}
		return least
	}
	last := took(len(a) - 1)
	for _, at := range []int{0, 1, len(a) / 100} {
		if first := took(at); first < last/10 {
			t.Errorf("unlike at %d: %v; at the end: %v", at, first, last)
		}
	}
}

// P2.4: fewer expanded bytes are the first ones of more; each number of them.
func TestFewerAreTheFirst(t *testing.T) {
	each(t, func(t *testing.T, h hash) {
		secret, info := drawn(h.sum), []byte("info")
		most, e := mac.Expand(h.h, secret, info, 255*h.sum)
		if e != api.OK || len(most) != 255*h.sum {
			t.Fatal(len(most), e)
		}
		step := 1
		for n := 1; n <= len(most); n += step {
			if n == 3*h.sum {
				step = 61 // one by one the rest would take long
			}
			if b, e := mac.Expand(h.h, secret, info, n); e != api.OK || !bytes.Equal(b, most[:n]) {
				t.Errorf("n %d: %d bytes, %d", n, len(b), e)
			}
		}
	})
}

// P2.4: a key with bytes 0 behind, up to a block, is as without; past a block it is another one.
func TestNoughtsBehindAKey(t *testing.T) {
	each(t, func(t *testing.T, h hash) {
		for n := range h.block + 1 {
			key, text := drawn(n), []byte("Hi There")
			plain := mac.Mac(h.h, key, text)
			expanded, _ := mac.Expand(h.h, key, text, h.sum+1)
			if len(plain) != h.sum || len(expanded) != h.sum+1 {
				t.Fatal(n, len(plain), len(expanded))
			}
			for more := 0; n+more <= h.block+2; more++ {
				with := append(bytes.Clone(key), make([]byte, more)...)
				as := more == 0 || n+more <= h.block
				b, e := mac.Expand(h.h, with, text, h.sum+1)
				if bytes.Equal(mac.Mac(h.h, with, text), plain) != as || bytes.Equal(mac.Extract(h.h, with, text), plain) != as || bytes.Equal(b, expanded) != as || e != api.OK {
					t.Errorf("%d bytes, %d of 0 behind", n, more)
				}
			}
		}
	})
}

// P2.1: a key of more bytes than a block is as its sum; one of a block's is not.
func TestLongKeyIsItsSum(t *testing.T) {
	each(t, func(t *testing.T, h hash) {
		for _, n := range []int{h.block - 1, h.block, h.block + 1, 5 * h.block} {
			key, text := drawn(n), []byte("Hi There")
			s := h.other()
			s.Write(key)
			if bytes.Equal(mac.Mac(h.h, key, text), mac.Mac(h.h, s.Sum(nil), text)) != (n > h.block) {
				t.Errorf("%d bytes", n)
			}
		}
	})
}

// R3: neither keys nor texts, nor the bytes behind them, nor the list of texts and what has room behind it, are otherwise.
func TestLeftAsItWas(t *testing.T) {
	each(t, func(t *testing.T, h hash) {
		for _, n := range h.keyLengths() {
			room := drawn(4*n + 3*h.block)
			was := bytes.Clone(room)
			key, text, rest := room[:n], room[n:2*n], room[2*n:3*n]
			behind := []byte("behind")
			l := [][]byte{text, nil, rest, behind, nil}
			mac.Mac(h.h, key, l[:3]...)
			mac.Extract(h.h, key, text)
			mac.Expand(h.h, key, text, 3*h.sum)
			mac.Expand(h.h, key, text, 0)
			mac.Same(key, text)
			if !bytes.Equal(room, was) || string(behind) != "behind" {
				t.Errorf("%d bytes: written into", n)
			}
			as := l[1] == nil && l[4] == nil && &l[3][0] == &behind[0] && len(l[0]) == n && len(l[2]) == n
			if !as || n > 0 && (&l[0][0] != &text[0] || &l[2][0] != &rest[0]) {
				t.Errorf("%d bytes: the list is another one", n)
			}
		}
	})
}

// R3: what is handed in may share its memory.
func TestSharedMemory(t *testing.T) {
	each(t, func(t *testing.T, h hash) {
		b := drawn(h.block)
		if !bytes.Equal(mac.Mac(h.h, b, b, b[1:], b), h.mac(b, slices.Concat(b, b[1:], b))) || !bytes.Equal(mac.Extract(h.h, b, b), h.mac(b, b)) {
			t.Error("a key that is its text")
		}
		if x, e := mac.Expand(h.h, b, b[1:], 99); e != api.OK || !bytes.Equal(x, h.expanded(t, b, b[1:], 99)) {
			t.Error("a secret that is its info:", e)
		}
	})
}

// R3: an answer is in memory of its own: to write into it, up to the end of its room, changes nothing else.
func TestAnswersAreTheirOwn(t *testing.T) {
	each(t, func(t *testing.T, h hash) {
		key, text := drawn(h.sum), drawn(h.sum)
		answers := func() [][]byte {
			b, _ := mac.Expand(h.h, key, text, h.sum+1)
			c, _ := mac.Expand(h.h, key, text, 255*h.sum)
			return [][]byte{mac.Mac(h.h, key, text), mac.Mac(h.h, nil), mac.Extract(h.h, key, text), b, c}
		}
		first, second := answers(), answers()
		for _, b := range first {
			clear(b[:cap(b)])
		}
		for i, b := range answers() {
			if !bytes.Equal(b, second[i]) || bytes.Equal(b, first[i]) {
				t.Error("answer", i, "is another one")
			}
		}
		if !bytes.Equal(key, drawn(h.sum)) || !bytes.Equal(text, drawn(h.sum)) {
			t.Error("what was handed in is otherwise")
		}
	})
}

// R5: what was asked ahead, or is meanwhile, makes no difference.
func TestNothingIsKept(t *testing.T) {
	each(t, func(t *testing.T, h hash) {
		var all sync.WaitGroup
		for i := range 8 {
			all.Go(func() {
				for n := range 100 {
					key, text := drawn(n*5+i), drawn(n*7+i)
					b, e := mac.Expand(h.h, key, text, 2*n+1)
					if !bytes.Equal(mac.Mac(h.h, key, text), h.mac(key, text)) || e != api.OK || !bytes.Equal(b, h.expanded(t, key, text, 2*n+1)) {
						t.Errorf("a key of %d bytes, a text of %d", len(key), len(text))
					}
				}
			})
		}
		all.Wait()
	})
}
