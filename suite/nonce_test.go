package suite_test

import (
	"bytes"
	"math"
	"math/rand"
	"slices"
	"testing"

	"hailer/suite"
)

// salts are of 0, of all bits, of bytes that are unlike, and drawn ones.
func salts() [][12]byte {
	l := [][12]byte{{}, [12]byte(bytes.Repeat([]byte{0xff}, 12)), {1, 2, 3, 4, 5, 6, 7, 8, 9, 10, 11, 12}}
	for n := range 5 {
		l = append(l, [12]byte(drawn(12+n)))
	}
	return l
}

// has tells where the counter's nonce is not this one.
func has(t *testing.T, salt [12]byte, ctr uint64, want [12]byte) {
	t.Helper()
	if n := (suite.Keys{Salt: salt}).Nonce(ctr); n != want {
		t.Errorf("the salt %x, the counter %#x: %x, not %x", salt, ctr, n, want)
	}
}

// P13.3: the chapter's example, and nonces written out.
func TestNonceExamples(t *testing.T) {
	has(t, [12]byte{}, 1, [12]byte{11: 1})
	has(t, [12]byte{}, 0, [12]byte{})
	has(t, [12]byte{}, 0x100, [12]byte{10: 1})
	has(t, [12]byte{}, 0x0102030405060708, [12]byte{0, 0, 0, 0, 1, 2, 3, 4, 5, 6, 7, 8})
	has(t, [12]byte{}, math.MaxUint64, [12]byte{0, 0, 0, 0, 255, 255, 255, 255, 255, 255, 255, 255})
	has(t, [12]byte{1, 2, 3, 4, 5, 6, 7, 8, 9, 10, 11, 12}, 0, [12]byte{1, 2, 3, 4, 5, 6, 7, 8, 9, 10, 11, 12})
	has(t, [12]byte{1, 2, 3, 4, 5, 6, 7, 8, 9, 10, 11, 12}, 12, [12]byte{1, 2, 3, 4, 5, 6, 7, 8, 9, 10, 11, 0})
	has(t, [12]byte{1, 2, 3, 4, 255, 255, 255, 255, 255, 255, 255, 255}, math.MaxUint64, [12]byte{1, 2, 3, 4})
	has(t, [12]byte{255, 255, 255, 255, 255, 255, 255, 255, 255, 255, 255, 255}, 1<<63, [12]byte{255, 255, 255, 255, 127, 255, 255, 255, 255, 255, 255, 255})
}

// P13.3: counters with each bit, and at each byte's edge, by each salt.
func TestNonce(t *testing.T) {
	for _, salt := range salts() {
		for _, ctr := range numbers() {
			has(t, salt, ctr, nonce(salt, ctr))
		}
	}
}

// P13.3: random salts and counters; nothing but the salt is the nonce's, whatever keys it stands in.
func TestRandomNonce(t *testing.T) {
	r := rand.New(rand.NewSource(1))
	for range 20000 {
		k := suite.Keys{Suite: uint16(r.Intn(8)), Kid: r.Uint64(), Key: drawn(r.Intn(50))}
		r.Read(k.Salt[:])
		ctr := r.Uint64() >> r.Intn(64)
		if n := k.Nonce(ctr); n != nonce(k.Salt, ctr) {
			t.Errorf("%x, the counter %#x: %x, not %x", k, ctr, n, nonce(k.Salt, ctr))
		}
	}
}

// P13.3: derived keys' nonces are of their salt, and the keys stay as they were.
func TestDerivedNonce(t *testing.T) {
	each(t, func(t *testing.T, r row) {
		k, _ := suite.Derive(r.number, drawn(32), 77)
		was := k
		was.Key = slices.Clone(k.Key)
		for _, ctr := range numbers() {
			n := k.Nonce(ctr)
			if n != nonce(was.Salt, ctr) || n != k.Nonce(ctr) {
				t.Errorf("the counter %#x: %x, not %x", ctr, n, nonce(was.Salt, ctr))
			}
			if !same(k, was) {
				t.Fatalf("the counter %#x: the keys are %x, not %x", ctr, k, was)
			}
		}
	})
}

// P13.4: no two of the first counters, of the last ones, nor of any numbers' edges have one nonce.
func TestUnlikeNonces(t *testing.T) {
	ctrs := map[uint64]bool{}
	for n := range uint64(1 << 16) {
		ctrs[n], ctrs[math.MaxUint64-n], ctrs[n<<32], ctrs[n<<48] = true, true, true, true
	}
	for _, n := range numbers() {
		ctrs[n] = true
	}
	for _, salt := range salts() {
		seen := map[[12]byte]uint64{}
		for ctr := range ctrs {
			n := (suite.Keys{Salt: salt}).Nonce(ctr)
			if had, is := seen[n]; is {
				t.Fatalf("the salt %x: the counters %#x and %#x have the nonce %x", salt, ctr, had, n)
			}
			seen[n] = ctr
		}
	}
}

// P13.4: of two random counters, often a bit apart, that are unlike the nonces are so.
func TestUnlikeTwo(t *testing.T) {
	r := rand.New(rand.NewSource(2))
	for range 50000 {
		var k suite.Keys
		r.Read(k.Salt[:])
		one, two := r.Uint64(), r.Uint64()>>r.Intn(64)
		if r.Intn(2) == 0 {
			two = one ^ 1<<r.Intn(64)
		}
		if one != two && k.Nonce(one) == k.Nonce(two) {
			t.Errorf("the salt %x: the counters %#x and %#x have one nonce", k.Salt, one, two)
		}
	}
}
