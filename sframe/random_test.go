package sframe_test

import (
	"bytes"
	"math/rand"
	"slices"
	"testing"

	"hailer/api"
	"hailer/sframe"
	"hailer/suite"
)

// some are n bytes at most, often few.
func some(draw *rand.Rand, n int) []byte {
	b := make([]byte, draw.Intn(n+1)>>draw.Intn(8))
	draw.Read(b)
	return b
}

// someKeys are any of the suite.
func someKeys(draw *rand.Rand, r row) suite.Keys {
	k := suite.Keys{Suite: r.number, Kid: draw.Uint64() >> draw.Intn(64), Key: make([]byte, r.key)}
	draw.Read(k.Key)
	draw.Read(k.Salt[:])
	return k
}

// P14.1 to P14.3: random keys, counters, metadata and texts; of each the frame, opened, and other bytes in its place.
func TestRandom(t *testing.T) {
	each(t, func(t *testing.T, r row) {
		draw := rand.New(rand.NewSource(int64(r.number)))
		for range 2000 {
			k, meta := someKeys(draw, r), some(draw, 1024)
			f := r.seals(t, k, draw.Uint64()>>draw.Intn(64), meta, some(draw, 2000))
			r.answers(t, k, meta, other(draw, f))
		}
	})
}

// other are the frame's bytes, some otherwise, gone, or more; or as many that are any.
func other(draw *rand.Rand, f []byte) []byte {
	b := slices.Clone(f)
	at := draw.Intn(len(b))
	switch draw.Intn(6) {
	case 0:
		draw.Read(b)
	case 1:
		return b[:at]
	case 2:
		return append(b, some(draw, 30)...)
	case 3:
		b[at] = byte(draw.Intn(256))
	case 4:
		b[at] ^= 1 << draw.Intn(8)
	case 5:
		b[draw.Intn(min(len(b), 17))] ^= 1 << draw.Intn(8)
	}
	return b
}

// answers tells where Open answers otherwise than the chapter's words: a frame is opened if there is a counter whose frame it is.
func (r row) answers(t *testing.T, k suite.Keys, meta, f []byte) {
	t.Helper()
	kid, ctr, used := told(f)
	if used == 0 {
		shut(t, k, meta, f, api.ErrBytes)
		return
	}
	if kid != k.Kid {
		shut(t, k, meta, f, api.ErrNone)
		return
	}
	b, c, e := sframe.Open(k, meta, f)
	if e == api.ErrTag && b == nil && c == 0 {
		if len(f)-used >= r.tag && r.is(t, k, ctr, meta, f, used) {
			t.Errorf("keys %x, frame %s: not opened", k, short(f))
		}
		return
	}
	if e != api.OK || c != ctr || !bytes.Equal(r.framed(t, k, c, meta, b), f) {
		t.Errorf("keys %x, frame %s: %s, counter %#x, error %d", k, short(f), short(b), c, e)
	}
}

// is tells whether the frame is that of a text: turning it twice, as what a text's bytes turned are hangs on the counter alone.
func (r row) is(t *testing.T, k suite.Keys, ctr uint64, meta, f []byte, used int) bool {
	t.Helper()
	end := len(f) - r.tag
	once := r.framed(t, k, ctr, meta, f[used:end])
	return bytes.Equal(r.framed(t, k, ctr, meta, once[used:end]), f)
}

// told are the header's numbers, and how many bytes it has; 0, if the frame begins with none.
func told(f []byte) (kid, ctr uint64, used int) {
	for count := 1; count <= min(len(f), 17); count++ {
		for split := 1; split <= count; split++ {
			kid, ctr := number(f[0]/16, f[1:split]), number(f[0]%16, f[split:count])
			if bytes.Equal(header(kid, ctr), f[:count]) {
				return kid, ctr, count
			}
		}
	}
	return 0, 0, 0
}

// number is that of these bytes, or the nibble without any.
func number(nibble byte, b []byte) uint64 {
	n := uint64(0)
	for _, x := range b {
		n = n<<8 | uint64(x)
	}
	if len(b) == 0 {
		n = uint64(nibble)
	}
	return n
}

// P14.1, P14.2: nothing that is handed in is changed, and no answer shares memory with it, nor with another answer.
func TestMemory(t *testing.T) {
	each(t, func(t *testing.T, r row) {
		k := r.keys(300)
		meta, plain := drawn(1, 50)[:40:50], drawn(2, 50)[:40:50]
		was := [][]byte{bytes.Clone(k.Key), bytes.Clone(meta[:50]), bytes.Clone(plain[:50])}
		unchanged := func() {
			t.Helper()
			if !bytes.Equal(k.Key, was[0]) || !bytes.Equal(meta[:50], was[1]) || !bytes.Equal(plain[:50], was[2]) {
				t.Fatal("something handed in was changed")
			}
		}
		f := r.seals(t, k, 9, meta, plain)
		unchanged()
		want := bytes.Clone(f)
		two := r.seals(t, k, 9, meta, plain)
		full := append(slices.Clone(f), 1, 2, 3, 4)
		b, _, _ := sframe.Open(k, meta, full[:len(f)])
		spoil(two)
		spoil(b)
		unchanged()
		if !bytes.Equal(f, want) || !bytes.Equal(full, append(want, 1, 2, 3, 4)) {
			t.Error("a frame was changed")
		}
		spoil(f)
		unchanged()
		opens(t, k, meta, full[:len(want)], 9, plain)
	})
}

// spoil writes over all bytes of a list's memory.
func spoil(b []byte) {
	for i := range b[:cap(b)] {
		b[:cap(b)][i] ^= 0xa5
	}
}

// P14.1, P14.2: what is answered does not hang on what was asked before, and the keys are not kept.
func TestAgain(t *testing.T) {
	each(t, func(t *testing.T, r row) {
		k := r.keys(5)
		f := r.seals(t, k, 6, nil, []byte("abc"))
		spoil(k.Key)
		shut(t, r.keys(6), nil, f, api.ErrNone)
		for range 3 {
			r.seals(t, r.keys(5), 6, nil, []byte("abc"))
			shut(t, r.keys(5), []byte("m"), f, api.ErrTag)
			opens(t, r.keys(5), nil, f, 6, []byte("abc"))
		}
	})
}
