package suite_test

import (
	"bytes"
	"crypto/hkdf"
	"crypto/sha256"
	"crypto/sha512"
	"encoding/binary"
	stdhash "hash"
	"math/rand"
	"testing"

	"hailer/api"
	"hailer/mac"
	"hailer/suite"
)

// This file is a reading of the chapter's words that stands apart, over the library's hashes.

// row is a line of the chapter's table, with the library's hash of the same name.
type row struct {
	name   string
	number uint16
	info   suite.Info
	other  func() stdhash.Hash
}

// rows are the chapter's table.
func rows() []row {
	return []row{
		{"Ctr80", 1, suite.Info{Hash: mac.H256, Key: 48, Enc: 16, Tag: 10, Sum: 32}, sha256.New},
		{"Ctr64", 2, suite.Info{Hash: mac.H256, Key: 48, Enc: 16, Tag: 8, Sum: 32}, sha256.New},
		{"Ctr32", 3, suite.Info{Hash: mac.H256, Key: 48, Enc: 16, Tag: 4, Sum: 32}, sha256.New},
		{"Gcm128", 4, suite.Info{Hash: mac.H256, Key: 16, Enc: 16, Tag: 16, Sum: 32}, sha256.New},
		{"Gcm256", 5, suite.Info{Hash: mac.H512, Key: 32, Enc: 32, Tag: 16, Sum: 64}, sha512.New},
	}
}

// each runs a test of each suite.
func each(t *testing.T, test func(t *testing.T, r row)) {
	for _, r := range rows() {
		t.Run(r.name, func(t *testing.T) { test(t, r) })
	}
}

// eachOther runs a test of each number that is no suite.
func eachOther(test func(number uint16)) {
	for n := range 1 << 16 {
		if n < 1 || n > 5 {
			test(uint16(n))
		}
	}
}

// expanded are n bytes, expanded of the base key's secret.
func (r row) expanded(t *testing.T, base []byte, info string, n int) []byte {
	t.Helper()
	secret, err := hkdf.Extract(r.other, base, nil)
	if err != nil {
		t.Fatal(err)
	}
	b, err := hkdf.Expand(r.other, secret, info, n)
	if err != nil {
		t.Fatal(err)
	}
	return b
}

// keys are the key id's, by the chapter's words.
func (r row) keys(t *testing.T, base []byte, kid uint64) suite.Keys {
	t.Helper()
	of := binary.BigEndian.AppendUint64(nil, kid)
	of = binary.BigEndian.AppendUint16(of, r.number)
	return suite.Keys{
		Suite: r.number,
		Kid:   kid,
		Key:   r.expanded(t, base, "SFrame 1.0 Secret key "+string(of), r.info.Key),
		Salt:  [12]byte(r.expanded(t, base, "SFrame 1.0 Secret salt "+string(of), 12)),
	}
}

// behind is the base key behind this one, by the chapter's words.
func (r row) behind(t *testing.T, base []byte) []byte {
	t.Helper()
	return r.expanded(t, base, "SFrame 1.0 Ratchet", r.info.Sum)
}

// nonce is the counter's, by the chapter's words.
func nonce(salt [12]byte, ctr uint64) [12]byte {
	last := binary.BigEndian.Uint64(salt[4:])
	binary.BigEndian.PutUint64(salt[4:], last^ctr)
	return salt
}

// same tells whether both are the same keys.
func same(a, b suite.Keys) bool {
	return a.Suite == b.Suite && a.Kid == b.Kid && a.Salt == b.Salt && bytes.Equal(a.Key, b.Key)
}

// derives tells where the keys of the key id are not those that the chapter's words have.
func (r row) derives(t *testing.T, base []byte, kid uint64) {
	t.Helper()
	if k, e := suite.Derive(r.number, base, kid); e != api.OK || !same(k, r.keys(t, base, kid)) {
		t.Errorf("a base key of %d bytes, key id %#x: %x, error %d; not %x", len(base), kid, k, e, r.keys(t, base, kid))
	}
}

// goesOn tells where the base key behind this one is not that which the chapter's words have.
func (r row) goesOn(t *testing.T, base []byte) {
	t.Helper()
	if b, e := suite.Behind(r.number, base); e != api.OK || !bytes.Equal(b, r.behind(t, base)) {
		t.Errorf("a base key of %d bytes: %x, error %d; not %x", len(base), b, e, r.behind(t, base))
	}
}

// fails tells where Derive and Behind answer otherwise than by this error, and anything beside it.
func fails(t *testing.T, number uint16, base []byte, kid uint64, want api.Errno) {
	t.Helper()
	if k, e := suite.Derive(number, base, kid); e != want || !same(k, suite.Keys{}) {
		t.Errorf("Derive of suite %d, a base key of %d bytes: %x, error %d; not zero, %d", number, len(base), k, e, want)
	}
	if b, e := suite.Behind(number, base); e != want || len(b) > 0 {
		t.Errorf("Behind of suite %d, a base key of %d bytes: %x, error %d; not none, %d", number, len(base), b, e, want)
	}
}

// drawn are n bytes, the same ones at each run.
func drawn(n int) []byte {
	b := make([]byte, n)
	rand.New(rand.NewSource(int64(n) + 1)).Read(b)
	return b
}

// numbers are those of 64 bits at which a byte begins or ends, each bit alone, and some that lie between.
func numbers() []uint64 {
	l := []uint64{0, 3, 5, 0x0102030405060708, 0x8070605040302010, 0x123, 0x4567, 1<<64 - 2, 1<<64 - 1}
	for n := range 64 {
		l = append(l, 1<<n)
		if n%8 == 0 && n > 0 {
			l = append(l, 1<<n-1, 1<<n+1)
		}
	}
	return l
}
