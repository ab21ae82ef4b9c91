package mac

import (
	"bytes"

	"hailer/sha"
)

// keyed is a hash with a key's block, exclusive-or 54 and 92. The key is worked on once, however many MACs are made under it.
type keyed struct {
	hash         Hash
	inner, outer []byte
}

// under is the hash with that key.
func under(h Hash, key []byte) keyed {
	size := blockBytes(h)
	if len(key) > size {
		key = sum(h, key)
	}
	// The key's bytes 0 behind leave 54 and 92 as they are.
	k := keyed{h, bytes.Repeat([]byte{54}, size), bytes.Repeat([]byte{92}, size)}
	for i, b := range key {
		k.inner[i] ^= b
		k.outer[i] ^= b
	}
	return k
}

// mac is the MAC of the text that all of l are. The list is the caller's, and may have room behind it: what goes ahead of it stands in a new one.
func (k keyed) mac(l ...[]byte) []byte {
	inner := sum(k.hash, append([][]byte{k.inner}, l...)...)
	return sum(k.hash, k.outer, inner)
}

// expanded are the first n expanded bytes of the key and the info.
func (k keyed) expanded(info []byte, n int) []byte {
	out := make([]byte, n)
	var t []byte
	for at, number := 0, byte(1); at < n; number++ {
		t = k.mac(t, info, []byte{number})
		at += copy(out[at:], t)
	}
	return out
}

// sum is the hash's sum of the text that all of l are.
func sum(h Hash, l ...[]byte) []byte {
	if h == H512 {
		s := sha.Sum512(l...)
		return s[:]
	}
	s := sha.Sum256(l...)
	return s[:]
}

// known tells whether it is one of the two hashes.
func known(h Hash) bool { return h == H256 || h == H512 }

// blockBytes is how many bytes a block of the hash has.
func blockBytes(h Hash) int {
	if h == H512 {
		return 128
	}
	return 64
}

// sumBytes is how many bytes a sum of the hash has: half a block's.
func sumBytes(h Hash) int { return blockBytes(h) / 2 }
