package wire

import (
	"slices"

	"hailer/api"
)

// In is what is taken: what is not taken yet; no bytes, and wrong, from what is wrong on.
type In struct {
	rest  []byte
	wrong bool
}

// NewIn is one of these bytes (P8.2).
func NewIn(b []byte) *In { return &In{rest: slices.Clone(b)} }

// U8 takes a number of 8 bits (P8.2).
func (i *In) U8() uint8 { return uint8(i.number(1)) }

// U32 takes a number of 32 bits (P8.2).
func (i *In) U32() uint32 { return uint32(i.number(4)) }

// U64 takes a number of 64 bits (P8.2).
func (i *In) U64() uint64 { return i.number(8) }

// Flag takes a truth value; wrong, if it is neither 1 nor 0 (P8.2).
func (i *In) Flag() bool {
	n := i.U8()
	if n > 1 {
		i.fail()
	}
	return n == 1
}

// Fixed takes n bytes; wrong, if that is below 0 (P8.2).
func (i *In) Fixed(n int) []byte { return append([]byte(nil), i.take(n)...) }

// Sized takes sized bytes; wrong, if they are more than most (P8.2).
func (i *In) Sized(most int) []byte { return i.Fixed(i.count(most)) }

// TakeList takes a list, each entry by one; wrong, if they are more than most, or one is nil (P8.2). From what is wrong on one is asked no more.
func TakeList[T any](i *In, most int, one func(i *In) T) []T {
	if one == nil {
		i.fail()
	}
	var l []T // with no room made ahead: how many there are told to be may be far more than there are bytes for
	for range i.count(most) {
		x := one(i)
		if i.wrong {
			return nil
		}
		l = append(l, x)
	}
	return l
}

// Left is how many bytes are not taken yet; 0, if something is wrong (P8.2).
func (i *In) Left() int {
	if i == nil {
		return 0
	}
	return len(i.rest)
}

// End is ErrBytes, if something is wrong, or bytes are left (P8.2).
func (i *In) End() api.Errno {
	if i == nil {
		return api.ErrNil
	}
	if i.wrong || len(i.rest) > 0 {
		return api.ErrBytes
	}
	return api.OK
}

// number takes a number of so many bytes, the highest first.
func (i *In) number(size int) (n uint64) {
	for _, b := range i.take(size) {
		n = n<<8 | uint64(b)
	}
	return n
}

// count takes how many there are, of which there may be most; 0, if there are more.
func (i *In) count(most int) int {
	n := int(i.number(countBytes))
	if n > most {
		i.fail()
		return 0
	}
	return n
}

// take takes the next n bytes, where they stand; none, if there are too few.
func (i *In) take(n int) []byte {
	if n < 0 || n > i.Left() {
		i.fail()
		return nil
	}
	if n == 0 { // of a nil one, too
		return nil
	}
	b := i.rest[:n]
	i.rest = i.rest[n:]
	return b
}

// fail makes it wrong; what is left is asked for no more.
func (i *In) fail() {
	if i != nil {
		*i = In{wrong: true}
	}
}
