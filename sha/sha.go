// Package sha is layer 1, SHA-256 and SHA-512: see shared/doc/01-sha.md.
package sha

// Sum256 is the SHA-256 sum of the text that all of l are, one behind the other (P1.1).
func Sum256(l ...[]byte) (sum [32]byte) {
	m := begun[uint32](64, places{
		a: three{2, 13, 22},
		e: three{6, 11, 25},
		u: three{7, 18, 3},
		v: three{17, 19, 10},
	})
	m.sum(sum[:], l)
	return sum
}

// Sum512 is the SHA-512 sum of that text (P1.1).
func Sum512(l ...[]byte) (sum [64]byte) {
	m := begun[uint64](80, places{
		a: three{28, 34, 39},
		e: three{14, 18, 41},
		u: three{1, 8, 7},
		v: three{19, 61, 6},
	})
	m.sum(sum[:], l)
	return sum
}
