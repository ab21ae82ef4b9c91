package sframe

import (
	"bytes"
	"encoding/hex"
	"testing"

	"hailer/api"
)

// P14.1, P14.2: published texts, turned, and their tags (RFC 9605), of the suites of Ctr; their aad is no header's.
func TestPublishedCtr(t *testing.T) {
	unhex := func(s string) []byte {
		b, err := hex.DecodeString(s)
		if err != nil {
			t.Fatal(err)
		}
		return b
	}
	enc := unhex("000102030405060708090a0b0c0d0e0f")
	auth := unhex("101112131415161718191a1b1c1d1e1f202122232425262728292a2b2c2d2e2f")
	nonce := [12]byte(unhex("101112131415161718191a1b"))
	aad := unhex("4945544620534672616d65205747")
	text := unhex("64726166742d696574662d736672616d652d656e63")
	for _, x := range []struct {
		tagBytes int
		sealed   string
	}{
		{10, "6339af04ada1d064688a442b8dc69d5b6bfa40f4bef0583e8081069cc60705"},
		{8, "6339af04ada1d064688a442b8dc69d5b6bfa40f4be6e93b7da076927bb"},
		{4, "6339af04ada1d064688a442b8dc69d5b6bfa40f4be09480509"},
	} {
		l := lockOfCtr(enc, auth, x.tagBytes)
		if b, e := l.seal(nonce, aad, text); e != api.OK || !bytes.Equal(b, unhex(x.sealed)) {
			t.Errorf("a tag of %d bytes: %x, error %d; not %s", x.tagBytes, b, e, x.sealed)
		}
		if b, e := l.open(nonce, aad, unhex(x.sealed)); e != api.OK || !bytes.Equal(b, text) {
			t.Errorf("a tag of %d bytes: %x, error %d", x.tagBytes, b, e)
		}
	}
}
