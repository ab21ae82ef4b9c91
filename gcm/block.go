package gcm

// block is a block as a polynomial over 0 and 1: the first word's highest bit is that of x^0, the last word's lowest that of x^127.
type block [2]uint64

// overflow is x^128, modulo the polynomial: x^7 + x^2 + x + 1, in a block's first word.
const overflow = 0xe1 << 56

// taken is the block of these bytes.
func taken(b [16]byte) (x block) {
	for i, v := range b {
		x[i/8] = x[i/8]<<8 | uint64(v)
	}
	return x
}

// put are the block's bytes.
func (x block) put() (b [16]byte) {
	for i := range b {
		b[i] = byte(x[i/8] >> (56 - 8*(i%8)))
	}
	return b
}

// fold is the hash of what x is that of, bytes 0 up to a block's end, and b behind them.
func (x block) fold(h block, b []byte) block {
	for len(b) > 0 {
		var next [16]byte
		b = b[copy(next[:], b):]
		x = x.plus(taken(next)).times(h)
	}
	return x
}

// plus is the sum of both.
func (x block) plus(y block) block { return block{x[0] ^ y[0], x[1] ^ y[1]} }

// times is the product of both. Of bits masks are made, and no way taken hangs on them, so that how long it takes tells nothing of the blocks.
func (x block) times(y block) block {
	var first, last uint64 // the product's words
	a, b := y[0], y[1]     // y, times x again and again
	for _, word := range x {
		for range 64 {
			has := -(word >> 63)
			first ^= a & has
			last ^= b & has
			over := -(b & 1)
			a, b = a>>1^over&overflow, b>>1|a<<63
			word <<= 1
		}
	}
	return block{first, last}
}
