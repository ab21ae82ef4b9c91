package wire_test

import (
	"bytes"
	"encoding/binary"
	"math/rand"
	"reflect"
	"testing"

	"hailer/api"
	"hailer/wire"
)

// shape is what a field may be: its kind, how many bytes it has (of fixed ones), how many there may be (of sized ones, of lists), and the fields of an entry.
type shape struct {
	kind string
	n    int
	most int
	of   []shape
}

// value is what a field has: a number (of a truth value 1 or 0), bytes, or entries.
type value struct {
	n uint64
	b []byte
	l [][]value
}

// kinds are those of shapes.
var kinds = []string{"U8", "U32", "U64", "Flag", "Fixed", "Sized", "list"}

// someShapes are up to most shapes; lists stand within one another so deep at most.
func someShapes(r *rand.Rand, most, deep int) []shape {
	l := make([]shape, r.Intn(most+1))
	for i := range l {
		k := kinds[r.Intn(len(kinds))]
		if k == "list" && deep == 0 {
			k = "Sized"
		}
		l[i] = shape{kind: k, n: r.Intn(5), most: r.Intn(7)}
		if r.Intn(8) == 0 {
			l[i].n, l[i].most = r.Intn(400), 250+r.Intn(50)
		}
		if k == "list" {
			l[i].most %= 8
			l[i].of = someShapes(r, 3, deep-1)
		}
	}
	return l
}

// someValues are values of these shapes.
func someValues(r *rand.Rand, shapes []shape) []value {
	l := make([]value, len(shapes))
	for i, s := range shapes {
		l[i] = someValue(r, s)
	}
	return l
}

func someValue(r *rand.Rand, s shape) (v value) {
	some := func(n int) []byte {
		b := make([]byte, n)
		r.Read(b)
		return b
	}
	switch s.kind {
	case "U8":
		v.n = uint64(uint8(r.Uint32()))
	case "U32":
		v.n = uint64(r.Uint32()) >> r.Intn(32)
	case "U64":
		v.n = r.Uint64() >> r.Intn(64)
	case "Flag":
		v.n = uint64(r.Intn(2))
	case "Fixed":
		v.b = some(s.n)
	case "Sized":
		v.b = some(r.Intn(s.most + 1))
	case "list":
		for range r.Intn(s.most + 1) {
			v.l = append(v.l, someValues(r, s.of))
		}
	}
	return v
}

// putAll puts the values by wire.
func putAll(o *wire.Out, shapes []shape, l []value) {
	for i, s := range shapes {
		v := l[i]
		switch s.kind {
		case "U8":
			o.U8(uint8(v.n))
		case "U32":
			o.U32(uint32(v.n))
		case "U64":
			o.U64(v.n)
		case "Flag":
			o.Flag(v.n == 1)
		case "Fixed":
			o.Fixed(v.b)
		case "Sized":
			o.Sized(s.most, v.b)
		case "list":
			wire.PutList(o, s.most, v.l, func(o *wire.Out, l []value) { putAll(o, s.of, l) })
		}
	}
}

// takeAll takes values of these shapes by wire.
func takeAll(i *wire.In, shapes []shape) []value {
	l := make([]value, len(shapes))
	for at, s := range shapes {
		v := &l[at]
		switch s.kind {
		case "U8":
			v.n = uint64(i.U8())
		case "U32":
			v.n = uint64(i.U32())
		case "U64":
			v.n = i.U64()
		case "Flag":
			if i.Flag() {
				v.n = 1
			}
		case "Fixed":
			v.b = i.Fixed(s.n)
		case "Sized":
			v.b = i.Sized(s.most)
		case "list":
			v.l = wire.TakeList(i, s.most, func(i *wire.In) []value { return takeAll(i, s.of) })
		}
	}
	return l
}

// two are two bytes that tell n, the highest first.
func two(n int) []byte { return binary.BigEndian.AppendUint16(nil, uint16(n)) }

// spelt are the values' bytes, as the document's words have them.
func spelt(shapes []shape, l []value) (b []byte) {
	for i, s := range shapes {
		v := l[i]
		switch s.kind {
		case "U8", "Flag":
			b = append(b, byte(v.n))
		case "U32":
			b = binary.BigEndian.AppendUint32(b, uint32(v.n))
		case "U64":
			b = binary.BigEndian.AppendUint64(b, v.n)
		case "Fixed":
			b = append(b, v.b...)
		case "Sized":
			b = append(append(b, two(len(v.b))...), v.b...)
		case "list":
			b = append(b, two(len(v.l))...)
			for _, entry := range v.l {
				b = append(b, spelt(s.of, entry)...)
			}
		}
	}
	return b
}

// rest is what is left of the bytes behind fields of these shapes, as the document's words have it; false, if something is wrong.
func rest(b []byte, shapes []shape) ([]byte, bool) {
	ok := true
	cut := func(n int) (first []byte) {
		if n > len(b) {
			ok = false
			return nil
		}
		first, b = b[:n], b[n:]
		return first
	}
	for _, s := range shapes {
		n := 0
		if s.kind == "Sized" || s.kind == "list" {
			if c := cut(2); ok {
				n = int(binary.BigEndian.Uint16(c))
			}
			ok = ok && n <= s.most
		}
		if !ok {
			return nil, false
		}
		switch s.kind {
		case "U8":
			cut(1)
		case "U32":
			cut(4)
		case "U64":
			cut(8)
		case "Flag":
			if c := cut(1); ok {
				ok = c[0] < 2
			}
		case "Fixed":
			cut(s.n)
		case "Sized":
			cut(n)
		case "list":
			for range n {
				if b, ok = rest(b, s.of); !ok {
					return nil, false
				}
			}
		}
		if !ok {
			return nil, false
		}
	}
	return b, true
}

// same tells whether both have the same values; lists of none are one, whether nil or not.
func same(a, b []value) bool {
	if len(a) != len(b) {
		return false
	}
	for i := range a {
		if a[i].n != b[i].n || !bytes.Equal(a[i].b, b[i].b) || len(a[i].l) != len(b[i].l) {
			return false
		}
		for j := range a[i].l {
			if !same(a[i].l[j], b[i].l[j]) {
				return false
			}
		}
	}
	return true
}

// each runs a test of many random lists of fields, with their bytes.
func each(seed int64, n int, test func(r *rand.Rand, shapes []shape, values []value, b []byte)) {
	r := rand.New(rand.NewSource(seed))
	for range n {
		shapes := someShapes(r, 8, 2)
		values := someValues(r, shapes)
		test(r, shapes, values, spelt(shapes, values))
	}
}

// P8.1, P8.2, P8.3: what is put has the document's bytes, within a limit that is as many; and it is taken as it was, to the end.
func TestRandomPutTaken(t *testing.T) {
	each(1, 3000, func(r *rand.Rand, shapes []shape, values []value, want []byte) {
		o := wire.NewOut(len(want))
		putAll(o, shapes, values)
		b, e := o.Bytes()
		if e != api.OK || !bytes.Equal(b, want) {
			t.Fatalf("%v: % x, error %d; not % x", shapes, b, e, want)
		}
		i := wire.NewIn(b)
		got := takeAll(i, shapes)
		if left, e := i.Left(), i.End(); !same(got, values) || left != 0 || e != api.OK {
			t.Fatalf("%v: taken %v, %d left, error %d; not %v", shapes, got, left, e, values)
		}
	})
}

// P8.1: at each limit that is less nothing is put.
func TestRandomLimit(t *testing.T) {
	each(2, 300, func(r *rand.Rand, shapes []shape, values []value, want []byte) {
		for limit := max(-3, len(want)-200); limit < len(want); limit++ {
			o := wire.NewOut(limit)
			putAll(o, shapes, values)
			if b, e := o.Bytes(); len(b) != 0 || e != api.ErrLong {
				t.Fatalf("%v, of %d bytes, limit %d: % x, error %d", shapes, len(want), limit, b, e)
			}
		}
	})
}

// P8.3: cut short at each place it is wrong; with a byte more it is wrong, whatever that is.
func TestRandomCutAndMore(t *testing.T) {
	each(3, 600, func(r *rand.Rand, shapes []shape, values []value, b []byte) {
		for n := max(0, len(b)-300); n < len(b); n++ {
			i := wire.NewIn(b[:n])
			takeAll(i, shapes)
			if left, e := i.Left(), i.End(); left != 0 || e != api.ErrBytes {
				t.Fatalf("%v, %d bytes of %d: %d left, error %d", shapes, n, len(b), left, e)
			}
		}
		for _, x := range []byte{0, 1, 255, byte(r.Uint32())} {
			i := wire.NewIn(append(bytes.Clone(b), x))
			got := takeAll(i, shapes)
			if left, e := i.Left(), i.End(); left != 1 || e != api.ErrBytes || !same(got, values) {
				t.Fatalf("%v, and a byte more: %d left, error %d", shapes, left, e)
			}
		}
	})
}

// P8.2, P8.3: other bytes are wrong just where the document's words have it; and those that are taken to their end tell other fields, and are put again as they are.
func TestRandomOtherBytes(t *testing.T) {
	wrong, right := 0, 0
	each(4, 4000, func(r *rand.Rand, shapes []shape, values []value, was []byte) {
		for range 8 {
			b := other(r, was)
			i := wire.NewIn(b)
			got := takeAll(i, shapes)
			left, e := i.Left(), i.End()
			behind, ok := rest(b, shapes)
			if ok != (e == api.OK || left > 0) || left != len(behind) || (e == api.OK) != (ok && len(behind) == 0) {
				t.Fatalf("%v, % x: %d left, error %d; not %d, %v", shapes, b, left, e, len(behind), ok)
			}
			if e != api.OK {
				wrong++
				continue
			}
			right++
			if same(got, values) && !bytes.Equal(b, was) {
				t.Fatalf("%v: % x and % x tell one", shapes, b, was)
			}
			o := wire.NewOut(len(b))
			putAll(o, shapes, got)
			if again, e := o.Bytes(); e != api.OK || !bytes.Equal(again, b) {
				t.Fatalf("%v: % x, put again % x, error %d", shapes, b, again, e)
			}
		}
	})
	if wrong < 5000 || right < 5000 {
		t.Errorf("%d wrong, %d right: ones of a kind are hardly tried", wrong, right)
	}
}

// other are the bytes, with some of them otherwise, gone, or more.
func other(r *rand.Rand, was []byte) []byte {
	b := bytes.Clone(was)
	for range 1 + r.Intn(2) {
		at := r.Intn(len(b) + 1)
		switch k := r.Intn(6); {
		case k == 0:
			b = append(b[:at:at], append([]byte{byte(r.Intn(3))}, b[at:]...)...)
		case at == len(b):
		case k == 1:
			b = append(b[:at:at], b[at+1:]...)
		case k == 2:
			b[at] = byte(r.Uint32())
		case k == 3:
			b[at] ^= 1
		default:
			b[at] ^= 1 << r.Intn(8)
		}
	}
	return b
}

// R3: putting and taking change nothing of what is handed in.
func TestRandomHandedIn(t *testing.T) {
	each(5, 300, func(r *rand.Rand, shapes []shape, values []value, want []byte) {
		o := wire.NewOut(1 << 20)
		before := copied(values)
		putAll(o, shapes, values)
		b, _ := o.Bytes()
		clear(b)
		if !reflect.DeepEqual(before, values) {
			t.Fatalf("%v: handed in %v, and now %v", shapes, before, values)
		}
		given := bytes.Clone(want)
		i := wire.NewIn(given)
		spoil(takeAll(i, shapes))
		if !bytes.Equal(given, want) {
			t.Fatalf("%v: handed in % x, and now % x", shapes, want, given)
		}
	})
}

// copied are the values in memory of their own.
func copied(l []value) []value {
	if l == nil {
		return nil
	}
	out := make([]value, len(l))
	for i, v := range l {
		out[i] = value{n: v.n, b: bytes.Clone(v.b)}
		for _, entry := range v.l {
			out[i].l = append(out[i].l, copied(entry))
		}
	}
	return out
}

// spoil writes into all bytes of the values.
func spoil(l []value) {
	for _, v := range l {
		for i := range v.b {
			v.b[i] ^= 0xff
		}
		for _, entry := range v.l {
			spoil(entry)
		}
	}
}
