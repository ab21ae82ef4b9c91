package sframe_test

import (
	"bytes"
	stdaes "crypto/aes"
	"crypto/cipher"
	"crypto/hmac"
	"crypto/sha256"
	"encoding/binary"
	"encoding/hex"
	"fmt"
	"math/big"
	"math/rand"
	"slices"
	"testing"

	"hailer/api"
	"hailer/sframe"
	"hailer/suite"
)

// This file is a reading of the chapter's words that stands apart, over the library's ciphers and MACs.

// row is a suite: how many bytes its key, its encryption's part of it, and its tag have, and whether it is of Gcm.
type row struct {
	name          string
	number        uint16
	key, enc, tag int
	gcm           bool
}

// rows are the five.
func rows() []row {
	return []row{
		{"Ctr80", 1, 48, 16, 10, false},
		{"Ctr64", 2, 48, 16, 8, false},
		{"Ctr32", 3, 48, 16, 4, false},
		{"Gcm128", 4, 16, 16, 16, true},
		{"Gcm256", 5, 32, 32, 16, true},
	}
}

// each runs a test of each suite.
func each(t *testing.T, test func(t *testing.T, r row)) {
	for _, r := range rows() {
		t.Run(r.name, func(t *testing.T) { test(t, r) })
	}
}

// keys are some of the suite, of that Kid.
func (r row) keys(kid uint64) suite.Keys {
	return suite.Keys{Suite: r.number, Kid: kid, Key: drawn(100+int(r.number), r.key), Salt: [12]byte(drawn(200+int(r.number), 12))}
}

// header are a frame's first bytes.
func header(kid, ctr uint64) []byte {
	b := make([]byte, 1)
	for i, n := range []uint64{kid, ctr} {
		nibble, more := byte(n), []byte(nil)
		if n > 7 {
			more = new(big.Int).SetUint64(n).Bytes()
			nibble = 7 + byte(len(more))
		}
		b[0] |= nibble << (4 - 4*i)
		b = append(b, more...)
	}
	return b
}

// nonce is the counter's.
func nonce(salt [12]byte, ctr uint64) []byte {
	last := binary.BigEndian.Uint64(salt[4:])
	return binary.BigEndian.AppendUint64(salt[:4:4], last^ctr)
}

// framed is the frame's bytes, by the chapter's words.
func (r row) framed(t *testing.T, k suite.Keys, ctr uint64, meta, plain []byte) []byte {
	t.Helper()
	h := header(k.Kid, ctr)
	aad, n := slices.Concat(h, meta), nonce(k.Salt, ctr)
	c, err := stdaes.NewCipher(k.Key[:r.enc])
	if err != nil {
		t.Fatal(err)
	}
	if r.gcm {
		g, err := cipher.NewGCM(c)
		if err != nil {
			t.Fatal(err)
		}
		return slices.Concat(h, g.Seal(nil, n, plain, aad))
	}
	turned := make([]byte, len(plain))
	cipher.NewCTR(c, append(slices.Clone(n), 0, 0, 0, 0)).XORKeyStream(turned, plain)
	return slices.Concat(h, turned, r.tagOf(k, n, aad, turned))
}

// tagOf is the tag of a suite of Ctr.
func (r row) tagOf(k suite.Keys, n, aad, turned []byte) []byte {
	m := hmac.New(sha256.New, k.Key[r.enc:])
	for _, count := range []int{len(aad), len(turned), r.tag} {
		binary.Write(m, binary.BigEndian, uint64(count))
	}
	for _, b := range [][]byte{n, aad, turned} {
		m.Write(b)
	}
	return m.Sum(nil)[:r.tag]
}

// seals tells where a frame is not that which the chapter's words have, or is not opened as it was; it answers the frame.
func (r row) seals(t *testing.T, k suite.Keys, ctr uint64, meta, plain []byte) []byte {
	t.Helper()
	f, e := sframe.Seal(k, ctr, meta, plain)
	if want := r.framed(t, k, ctr, meta, plain); e != api.OK || !bytes.Equal(f, want) {
		t.Fatalf("keys %x, counter %#x, metadata %s, text %s: %s, error %d; not %s", k, ctr, short(meta), short(plain), short(f), e, short(want))
	}
	if len(f) != len(header(k.Kid, ctr))+len(plain)+r.tag {
		t.Errorf("keys %x, counter %#x, a text of %d bytes: a frame of %d", k, ctr, len(plain), len(f))
	}
	opens(t, k, meta, f, ctr, plain)
	return f
}

// opens tells where a frame is not opened to that text and counter.
func opens(t *testing.T, k suite.Keys, meta, frame []byte, ctr uint64, plain []byte) {
	t.Helper()
	if b, c, e := sframe.Open(k, meta, frame); e != api.OK || c != ctr || !bytes.Equal(b, plain) {
		t.Errorf("keys %x, metadata %s, frame %s: %s, counter %#x, error %d; not %s, %#x", k, short(meta), short(frame), short(b), c, e, short(plain), ctr)
	}
}

// shut tells where Open answers otherwise than by this error alone.
func shut(t *testing.T, k suite.Keys, meta, frame []byte, want api.Errno) {
	t.Helper()
	if b, c, e := sframe.Open(k, meta, frame); e != want || c != 0 || b != nil {
		t.Errorf("keys %x, metadata %s, frame %s: %s, counter %#x, error %d; not none, 0, %d", k, short(meta), short(frame), short(b), c, e, want)
	}
}

// refused tells where Seal answers otherwise than by this error alone.
func refused(t *testing.T, k suite.Keys, ctr uint64, meta, plain []byte, want api.Errno) {
	t.Helper()
	if f, e := sframe.Seal(k, ctr, meta, plain); e != want || f != nil {
		t.Errorf("keys %x, counter %#x, metadata %s, text %s: %s, error %d; not none, %d", k, ctr, short(meta), short(plain), short(f), e, want)
	}
}

// short are the bytes to the base 16, and how many they are; of many the first ones alone.
func short(b []byte) string {
	return fmt.Sprintf("%x (%d)", b[:min(len(b), 64)], len(b))
}

// drawn are n bytes, the same ones at each run for each seed.
func drawn(seed, n int) []byte {
	b := make([]byte, n)
	rand.New(rand.NewSource(int64(seed))).Read(b)
	return b
}

// unhex are the bytes written so, to the base 16.
func unhex(t *testing.T, s string) []byte {
	t.Helper()
	b, err := hex.DecodeString(s)
	if err != nil {
		t.Fatal(err)
	}
	return b
}

// turned are the bytes with one bit otherwise.
func turned(b []byte, bit int) []byte {
	b = bytes.Clone(b)
	b[bit/8] ^= 1 << (bit % 8)
	return b
}

// numbers are those of 64 bits at which a header's form ends or begins, and some that lie between.
func numbers() []uint64 {
	l := []uint64{0, 1, 5, 7, 8, 9, 300, 0x0102030405060708, 1 << 63}
	for n := 1; n < 8; n++ {
		at := uint64(1) << (8 * n)
		l = append(l, at-1, at)
	}
	return append(l, 1<<64-2, 1<<64-1)
}
