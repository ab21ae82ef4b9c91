package field

import "math/bits"

const (
	limbBits = 51
	limbMost = 1<<limbBits - 1

	// over is 2^255, modulo p: so often comes in below what goes out above.
	over = 19
)

// wide is a number of 128 bits.
type wide struct{ high, low uint64 }

// plus is the number and a product besides.
func (w wide) plus(a, b uint64) wide {
	high, low := bits.Mul64(a, b)
	low, more := bits.Add64(w.low, low, 0)
	return wide{w.high + high + more, low}
}

// rest is what has room in a limb.
func (w wide) rest() uint64 { return w.low & limbMost }

// carry is what has no room. The number is below 2^115, so that it is one of 64 bits.
func (w wide) carry() uint64 { return w.high<<(64-limbBits) | w.low>>limbBits }

// carried is the number of five limbs of any 64 bits: what has no room in one goes to the next, so that each is below 2^52.
func carried(a, b, c, d, e uint64) Num {
	return Num{[5]uint64{
		a&limbMost + over*(e>>limbBits),
		b&limbMost + a>>limbBits,
		c&limbMost + b>>limbBits,
		d&limbMost + c>>limbBits,
		e&limbMost + d>>limbBits,
	}}
}

// least is the number as the one from 0 to p - 1, with each limb below 2^51.
func (x Num) least() Num {
	l := carried(x.limbs[0], x.limbs[1], x.limbs[2], x.limbs[3], x.limbs[4]).limbs
	// It is below 2 p now; and p or more just if, with 19 more, something goes out above. If so those 19 stay: they are less p what went out.
	carry := uint64(over)
	for _, limb := range l {
		carry = (limb + carry) >> limbBits
	}
	carry *= over
	for i := range l {
		l[i] += carry
		carry = l[i] >> limbBits
		l[i] &= limbMost
	}
	return Num{l}
}

// taken are the words of the bytes; of both the lowest first.
func taken(b [32]byte) (words [4]uint64) {
	for i, x := range b {
		words[i/8] |= uint64(x) << (8 * (i % 8))
	}
	return words
}

// put are the bytes of the words.
func put(words [4]uint64) (b [32]byte) {
	for i := range b {
		b[i] = byte(words[i/8] >> (8 * (i % 8)))
	}
	return b
}

// cut is the number of the words' bits, but for the highest one.
func cut(words [4]uint64) Num {
	return Num{[5]uint64{
		words[0] & limbMost,
		(words[0]>>51 | words[1]<<13) & limbMost,
		(words[1]>>38 | words[2]<<26) & limbMost,
		(words[2]>>25 | words[3]<<39) & limbMost,
		words[3] >> 12 & limbMost,
	}}
}

// joined are the words of a number with each limb below 2^51.
func (x Num) joined() [4]uint64 {
	l := &x.limbs
	return [4]uint64{
		l[0] | l[1]<<51,
		l[1]>>13 | l[2]<<38,
		l[2]>>26 | l[3]<<25,
		l[3]>>39 | l[4]<<12,
	}
}
