package wire

import (
	"slices"

	"hailer/api"
)

// Out is what is put: no bytes, and wrong, from what is wrong on.
type Out struct {
	b     []byte
	limit int
	wrong bool
}

// NewOut is one of at most that many bytes (P8.1). Below 0 none are few enough, so it is wrong from its beginning on.
func NewOut(limit int) *Out { return &Out{limit: limit, wrong: limit < 0} }

// U8 puts numbers of 8 bits (P8.1).
func (o *Out) U8(l ...uint8) { o.put(l) }

// U32 puts numbers of 32 bits (P8.1).
func (o *Out) U32(l ...uint32) { putNumbers(o, 4, l...) }

// U64 puts numbers of 64 bits (P8.1).
func (o *Out) U64(l ...uint64) { putNumbers(o, 8, l...) }

// Flag puts truth values (P8.1).
func (o *Out) Flag(l ...bool) {
	for _, yes := range l {
		if yes {
			o.U8(1)
		} else {
			o.U8(0)
		}
	}
}

// Fixed puts these bytes (P8.1).
func (o *Out) Fixed(l ...[]byte) {
	for _, b := range l {
		o.put(b)
	}
}

// Sized puts how many bytes there are, and these; wrong, if they are more than most, or than can be told (P8.1).
func (o *Out) Sized(most int, b []byte) {
	o.count(most, len(b))
	o.put(b)
}

// PutList puts how many entries there are, and each by one; wrong, if they are more than most, or than can be told, or one is nil (P8.1). From what is wrong on one is asked no more.
func PutList[T any](o *Out, most int, l []T, one func(o *Out, x T)) {
	if one == nil {
		o.fail()
	}
	o.count(most, len(l))
	for _, x := range l {
		if o.done() {
			return
		}
		one(o, x)
	}
}

// Bytes are all that was put, in memory of their own; ErrLong, if something is wrong (P8.1).
func (o *Out) Bytes() ([]byte, api.Errno) {
	if o == nil {
		return nil, api.ErrNil
	}
	if o.wrong {
		return nil, api.ErrLong
	}
	return slices.Clone(o.b), api.OK
}

// putNumbers puts each number's last size bytes, the highest first.
func putNumbers[N uint32 | uint64](o *Out, size int, l ...N) {
	for _, n := range l {
		var b [8]byte
		for i := range size {
			b[size-1-i] = byte(n >> (8 * i))
		}
		o.put(b[:size])
	}
}

// count puts how many there are, of which there may be most.
func (o *Out) count(most, n int) {
	if n > min(most, mostTold) {
		o.fail()
	}
	o.U8(uint8(n>>8), uint8(n))
}

// put puts the bytes, if there is room for all of them.
func (o *Out) put(b []byte) {
	if o.done() {
		return
	}
	if len(b) > o.limit-len(o.b) {
		o.fail()
		return
	}
	o.b = append(o.b, b...)
}

// done tells whether nothing is put any more.
func (o *Out) done() bool { return o == nil || o.wrong }

// fail makes it wrong; what was put is asked for no more.
func (o *Out) fail() {
	if o != nil {
		*o = Out{wrong: true}
	}
}
