package wire_test

import (
	"bytes"
	"math"
	"math/rand"
	"slices"
	"strconv"
	"testing"

	"hailer/api"
	"hailer/wire"
)

// told is as many as two bytes tell at most.
const told = 65535

// room is a limit that no test reaches.
const room = 1 << 30

// Functions by which lists of numbers of 8 and 32 bits, and of nothing, are put and taken.
func putByte(o *wire.Out, x uint8)  { o.U8(x) }
func takeByte(i *wire.In) uint8     { return i.U8() }
func putWord(o *wire.Out, x uint32) { o.U32(x) }
func takeWord(i *wire.In) uint32    { return i.U32() }

type nothing struct{}

func putNothing(*wire.Out, nothing)    {}
func takeNothing(*wire.In) (_ nothing) { return }

// isBytes tells where the writer's bytes are not these.
func isBytes(t *testing.T, what string, o *wire.Out, want []byte) {
	t.Helper()
	if b, e := o.Bytes(); e != api.OK || !bytes.Equal(b, want) {
		t.Errorf("%s: % x, error %d; not % x", what, head(b), e, head(want))
	}
}

// isWrong tells where something is not wrong with what was put.
func isWrong(t *testing.T, what string, o *wire.Out) {
	t.Helper()
	if b, e := o.Bytes(); e != api.ErrLong || len(b) != 0 {
		t.Errorf("%s: % x, error %d; not none, ErrLong", what, head(b), e)
	}
}

// staysWrong tells where something is not wrong with what was put, or is put from then on.
func staysWrong(t *testing.T, what string, o *wire.Out) {
	t.Helper()
	isWrong(t, what, o)
	for _, p := range every() {
		p.put(o)
		isWrong(t, what+", and "+p.name, o)
	}
	wire.PutList(o, 9, []uint8{1, 2}, func(o *wire.Out, x uint8) {
		isWrong(t, what+", within a list", o)
		o.U8(x)
	})
	isWrong(t, what+", and a list", o)
}

// isTaken tells where not all was taken, or something is wrong.
func isTaken(t *testing.T, what string, i *wire.In) {
	t.Helper()
	if left, e := i.Left(), i.End(); left != 0 || e != api.OK {
		t.Errorf("%s: %d left, error %d", what, left, e)
	}
}

// staysBad tells where something is not wrong with what is taken, or is taken from then on.
func staysBad(t *testing.T, what string, i *wire.In) {
	t.Helper()
	bad := func(behind string) {
		t.Helper()
		if left, e := i.Left(), i.End(); left != 0 || e != api.ErrBytes {
			t.Errorf("%s, %s: %d left, error %d; not 0, ErrBytes", what, behind, left, e)
		}
	}
	bad("at once")
	for _, p := range every() {
		if !p.takesZero(i) {
			t.Errorf("%s, then %s: not zero", what, p.name)
		}
		bad("behind " + p.name)
	}
	if b := i.Fixed(0); len(b) != 0 {
		t.Errorf("%s: then no bytes are % x", what, b)
	}
	bad("behind no bytes")
}

// head are the first bytes, of many.
func head(b []byte) []byte { return b[:min(len(b), 64)] }

// kind is a kind of field: it puts one of n bytes, the ones that it tells, and takes it.
type kind struct {
	name      string
	put       func(o *wire.Out)
	bytes     []byte
	takes     func(i *wire.In) bool // what was put
	takesZero func(i *wire.In) bool
}

// every has a field of each kind.
func every() []kind {
	return []kind{
		{"U8", func(o *wire.Out) { o.U8(0xa1) }, []byte{0xa1},
			func(i *wire.In) bool { return i.U8() == 0xa1 }, func(i *wire.In) bool { return i.U8() == 0 }},
		{"U32", func(o *wire.Out) { o.U32(0xa1b2c3d4) }, []byte{0xa1, 0xb2, 0xc3, 0xd4},
			func(i *wire.In) bool { return i.U32() == 0xa1b2c3d4 }, func(i *wire.In) bool { return i.U32() == 0 }},
		{"U64", func(o *wire.Out) { o.U64(0xa1b2c3d4e5f60718) }, []byte{0xa1, 0xb2, 0xc3, 0xd4, 0xe5, 0xf6, 0x07, 0x18},
			func(i *wire.In) bool { return i.U64() == 0xa1b2c3d4e5f60718 }, func(i *wire.In) bool { return i.U64() == 0 }},
		{"Flag", func(o *wire.Out) { o.Flag(true) }, []byte{1},
			func(i *wire.In) bool { return i.Flag() }, func(i *wire.In) bool { return !i.Flag() }},
		{"Fixed", func(o *wire.Out) { o.Fixed([]byte("hey")) }, []byte("hey"),
			func(i *wire.In) bool { return string(i.Fixed(3)) == "hey" }, func(i *wire.In) bool { return len(i.Fixed(3)) == 0 }},
		{"Sized", func(o *wire.Out) { o.Sized(3, []byte("hi")) }, []byte("\x00\x02hi"),
			func(i *wire.In) bool { return string(i.Sized(3)) == "hi" }, func(i *wire.In) bool { return len(i.Sized(3)) == 0 }},
		{"a list", func(o *wire.Out) { wire.PutList(o, 3, []uint32{1, 0xf0000000}, putWord) }, []byte{0, 2, 0, 0, 0, 1, 0xf0, 0, 0, 0},
			func(i *wire.In) bool { return slices.Equal(wire.TakeList(i, 3, takeWord), []uint32{1, 0xf0000000}) },
			func(i *wire.In) bool { return len(wire.TakeList(i, 3, takeWord)) == 0 }},
	}
}

// P8.1, P8.2: the chapter's examples.
func TestExamples(t *testing.T) {
	puts := func(limit, most int) *wire.Out {
		o := wire.NewOut(limit)
		o.U8(1)
		o.U32(2)
		o.Sized(most, []byte("hi"))
		return o
	}
	isBytes(t, "of 9 bytes", puts(9, 4), []byte{1, 0, 0, 0, 2, 0, 2, 'h', 'i'})
	isWrong(t, "of 8 bytes", puts(8, 4))
	isWrong(t, "sized, of 1 byte", puts(9, 1))

	two := wire.NewIn([]byte{2})
	if yes, e := two.Flag(), two.End(); yes || e != api.ErrBytes {
		t.Errorf("2: %v, error %d", yes, e)
	}
	one := wire.NewIn([]byte{1, 7})
	if yes, left, e := one.Flag(), one.Left(), one.End(); !yes || left != 1 || e != api.ErrBytes {
		t.Errorf("1 7: %v, %d left, error %d", yes, left, e)
	}
}

// P8.1: each field's bytes are the document's, with none, one and many handed in at once.
func TestFieldBytes(t *testing.T) {
	many := bytes.Repeat([]byte{0xff, 0, 7}, 100)
	for _, c := range []struct {
		name string
		put  func(o *wire.Out)
		want string
	}{
		{"nothing", func(o *wire.Out) {}, ""},
		{"no U8", func(o *wire.Out) { o.U8() }, ""},
		{"U8 0", func(o *wire.Out) { o.U8(0) }, "\x00"},
		{"U8 255", func(o *wire.Out) { o.U8(255) }, "\xff"},
		{"U8s", func(o *wire.Out) { o.U8(1, 0x80, 0, 0xfe) }, "\x01\x80\x00\xfe"},
		{"many U8s", func(o *wire.Out) { o.U8(many...) }, string(many)},
		{"no U32", func(o *wire.Out) { o.U32() }, ""},
		{"U32 0", func(o *wire.Out) { o.U32(0) }, "\x00\x00\x00\x00"},
		{"U32 1", func(o *wire.Out) { o.U32(1) }, "\x00\x00\x00\x01"},
		{"U32 most", func(o *wire.Out) { o.U32(math.MaxUint32) }, "\xff\xff\xff\xff"},
		{"U32s", func(o *wire.Out) { o.U32(0x01020304, 0xf0e0d0c0, 0x100) }, "\x01\x02\x03\x04\xf0\xe0\xd0\xc0\x00\x00\x01\x00"},
		{"no U64", func(o *wire.Out) { o.U64() }, ""},
		{"U64 0", func(o *wire.Out) { o.U64(0) }, "\x00\x00\x00\x00\x00\x00\x00\x00"},
		{"U64 1", func(o *wire.Out) { o.U64(1) }, "\x00\x00\x00\x00\x00\x00\x00\x01"},
		{"U64 most", func(o *wire.Out) { o.U64(math.MaxUint64) }, "\xff\xff\xff\xff\xff\xff\xff\xff"},
		{"U64s", func(o *wire.Out) { o.U64(0x0102030405060708, 1<<63, 1<<32) }, "\x01\x02\x03\x04\x05\x06\x07\x08\x80\x00\x00\x00\x00\x00\x00\x00\x00\x00\x00\x01\x00\x00\x00\x00"},
		{"no Flag", func(o *wire.Out) { o.Flag() }, ""},
		{"Flag true", func(o *wire.Out) { o.Flag(true) }, "\x01"},
		{"Flag false", func(o *wire.Out) { o.Flag(false) }, "\x00"},
		{"Flags", func(o *wire.Out) { o.Flag(true, false, false, true, true) }, "\x01\x00\x00\x01\x01"},
		{"no Fixed", func(o *wire.Out) { o.Fixed() }, ""},
		{"Fixed nil", func(o *wire.Out) { o.Fixed(nil) }, ""},
		{"Fixed of one", func(o *wire.Out) { o.Fixed([]byte{9}) }, "\x09"},
		{"Fixeds", func(o *wire.Out) { o.Fixed([]byte("ab"), nil, []byte{}, []byte("c"), many) }, "abc" + string(many)},
		{"Sized nil", func(o *wire.Out) { o.Sized(0, nil) }, "\x00\x00"},
		{"Sized of none", func(o *wire.Out) { o.Sized(7, []byte{}) }, "\x00\x00"},
		{"Sized of one", func(o *wire.Out) { o.Sized(7, []byte{0}) }, "\x00\x01\x00"},
		{"Sized of 300", func(o *wire.Out) { o.Sized(300, many) }, "\x01\x2c" + string(many)},
		{"a nil list", func(o *wire.Out) { wire.PutList(o, 0, nil, putByte) }, "\x00\x00"},
		{"a list of none", func(o *wire.Out) { wire.PutList(o, 3, []uint8{}, putByte) }, "\x00\x00"},
		{"a list of one", func(o *wire.Out) { wire.PutList(o, 3, []uint8{5}, putByte) }, "\x00\x01\x05"},
		{"a list of 300", func(o *wire.Out) { wire.PutList(o, 300, many, putByte) }, "\x01\x2c" + string(many)},
		{"a list of words", func(o *wire.Out) { wire.PutList(o, 3, []uint32{1, 2, 3}, putWord) }, "\x00\x03\x00\x00\x00\x01\x00\x00\x00\x02\x00\x00\x00\x03"},
		{"a list of nothings", func(o *wire.Out) { wire.PutList(o, 600, make([]nothing, 513), putNothing) }, "\x02\x01"},
		{"a list of texts", func(o *wire.Out) {
			wire.PutList(o, 2, []string{"", "abc"}, func(o *wire.Out, s string) { o.Sized(3, []byte(s)) })
		}, "\x00\x02\x00\x00\x00\x03abc"},
		{"a list of lists", func(o *wire.Out) {
			wire.PutList(o, 3, [][]uint8{{1}, nil, {2, 3}}, func(o *wire.Out, l []uint8) { wire.PutList(o, 2, l, putByte) })
		}, "\x00\x03\x00\x01\x01\x00\x00\x00\x02\x02\x03"},
	} {
		o := wire.NewOut(len(c.want))
		c.put(o)
		isBytes(t, c.name, o, []byte(c.want))
	}
}

// P8.1, P8.2: each bit of a number stands where it counts, the highest first.
func TestNumberBits(t *testing.T) {
	for bit := range 64 {
		want := make([]byte, 8)
		want[7-bit/8] = 1 << (bit % 8)
		n := uint64(1) << bit
		o := wire.NewOut(room)
		o.U64(n)
		isBytes(t, "U64 of bit "+strconv.Itoa(bit), o, want)
		if got := wire.NewIn(want).U64(); got != n {
			t.Errorf("U64 of bit %d: %x", bit, got)
		}
		if bit < 32 {
			o := wire.NewOut(room)
			o.U32(uint32(n))
			isBytes(t, "U32 of bit "+strconv.Itoa(bit), o, want[4:])
			if got := wire.NewIn(want[4:]).U32(); got != uint32(n) {
				t.Errorf("U32 of bit %d: %x", bit, got)
			}
		}
		if bit < 8 {
			o := wire.NewOut(room)
			o.U8(uint8(n))
			isBytes(t, "U8 of bit "+strconv.Itoa(bit), o, want[7:])
			if got := wire.NewIn(want[7:]).U8(); got != uint8(n) {
				t.Errorf("U8 of bit %d: %x", bit, got)
			}
		}
	}
}

// P8.1, P8.2: what is put stands behind what was put, whichever kinds they are, also behind bytes that were asked for; and each takes the field that stands next.
func TestBehind(t *testing.T) {
	l := every()
	for _, a := range l {
		for _, b := range l {
			for _, c := range l {
				name := a.name + ", " + b.name + ", " + c.name
				o := wire.NewOut(room)
				var want []byte
				for _, k := range []kind{a, b, c} {
					k.put(o)
					want = append(want, k.bytes...)
					isBytes(t, name, o, want)
				}
				i := wire.NewIn(want)
				if !a.takes(i) || !b.takes(i) || !c.takes(i) {
					t.Errorf("%s: not taken as it was", name)
				}
				isTaken(t, name, i)
			}
		}
	}
}

// P8.1: entries are put in order, each once, where the list stands.
func TestPutListAsks(t *testing.T) {
	o := wire.NewOut(room)
	o.U8(7)
	var asked []uint32
	wire.PutList(o, 3, []uint32{5, 6, 5}, func(given *wire.Out, x uint32) {
		if given != o {
			t.Error("another writer is handed in")
		}
		asked = append(asked, x)
		given.U8(uint8(x), 0xee)
	})
	o.U8(8)
	if !slices.Equal(asked, []uint32{5, 6, 5}) {
		t.Errorf("asked of %v", asked)
	}
	isBytes(t, "a list", o, []byte{7, 0, 3, 5, 0xee, 6, 0xee, 5, 0xee, 8})
}

// mosts are how many may be, how many there are, and whether that may be, where as many can be told.
var mosts = []struct {
	most, n int
	may     bool
}{
	{0, 0, true}, {0, 1, false}, {1, 0, true}, {1, 1, true}, {1, 2, false}, {300, 299, true}, {300, 300, true}, {300, 301, false},
	{-1, 0, false}, {-1, 1, false}, {-300, 0, false}, {math.MinInt, 0, false}, {math.MinInt, 5, false},
	{told - 1, told - 1, true}, {told - 1, told, false}, {told, told, true}, {told, told - 1, true},
	{math.MaxInt, 0, true}, {math.MaxInt, told, true},
}

// P8.1: Sized has as many as most, and as can be told; with one more, or most below 0, it is wrong.
func TestPutSizedMost(t *testing.T) {
	try := func(most, n int, may bool) {
		name := "Sized of " + strconv.Itoa(n) + ", most " + strconv.Itoa(most)
		b := drawn(n, n)
		o := wire.NewOut(room)
		o.U8(3)
		o.Sized(most, b)
		if may {
			isBytes(t, name, o, append([]byte{3, byte(n >> 8), byte(n)}, b...))
		} else {
			staysWrong(t, name, o)
		}
	}
	for _, c := range mosts {
		try(c.most, c.n, c.may)
	}
	for _, most := range []int{told, told + 1, told + 2, 1 << 20, math.MaxInt} {
		try(most, told, true)
		try(most, told+1, false)
		try(most, told+2, false)
		try(most, 2*(told+1), false)
	}
}

// P8.1: PutList has as many as most, and as can be told; with one more, most below 0, or no function, it is wrong, and nothing is asked.
func TestPutListMost(t *testing.T) {
	try := func(most, n int, may bool) {
		name := "a list of " + strconv.Itoa(n) + ", most " + strconv.Itoa(most)
		l := drawn(n, n)
		o := wire.NewOut(room)
		o.U8(3)
		asked := 0
		wire.PutList(o, most, l, func(o *wire.Out, x uint8) {
			asked++
			o.U8(x)
		})
		if may {
			isBytes(t, name, o, append([]byte{3, byte(n >> 8), byte(n)}, l...))
		} else {
			staysWrong(t, name, o)
			if asked != 0 {
				t.Errorf("%s: asked %d times", name, asked)
			}
		}
		none := wire.NewOut(room)
		none.U8(3)
		wire.PutList(none, most, l, nil)
		staysWrong(t, name+", without a function", none)
	}
	for _, c := range mosts {
		try(c.most, c.n, c.may)
	}
	for _, most := range []int{told, told + 1, told + 2, 1 << 20, math.MaxInt} {
		try(most, told, true)
		try(most, told+1, false)
		try(most, told+2, false)
		try(most, 2*(told+1), false)
	}
	empty := wire.NewOut(room)
	wire.PutList[uint8](empty, 4, nil, nil)
	staysWrong(t, "a nil list, without a function", empty)
}

// P8.1: entries that have no bytes are as many as can be told, too.
func TestPutListOfNothings(t *testing.T) {
	o := wire.NewOut(2)
	wire.PutList(o, told, make([]nothing, told), putNothing)
	isBytes(t, "nothings", o, []byte{0xff, 0xff})
	wire.PutList(o, told+1, make([]nothing, told+1), putNothing)
	staysWrong(t, "nothings, one more", o)
}

// P8.1: an entry that is wrong makes all wrong; those behind it are not asked.
func TestPutListWrongWithin(t *testing.T) {
	for at := range 4 {
		o := wire.NewOut(room)
		o.U8(1)
		asked := 0
		wire.PutList(o, 9, []int{0, 1, 2, 3}, func(o *wire.Out, x int) {
			asked++
			if x == at {
				o.Sized(1, []byte("no"))
			}
			o.U8(uint8(x))
		})
		staysWrong(t, "wrong at "+strconv.Itoa(at), o)
		if asked != at+1 {
			t.Errorf("wrong at %d: asked %d times", at, asked)
		}
	}
}

// P8.1: the limit is met just so by each kind, alone and behind others; with a byte more it is wrong.
func TestLimit(t *testing.T) {
	for _, ahead := range []int{0, 1, 100} {
		for _, k := range every() {
			n := ahead + len(k.bytes)
			for limit := range n + 3 {
				name := k.name + " behind " + strconv.Itoa(ahead) + ", limit " + strconv.Itoa(limit)
				o := wire.NewOut(limit)
				o.Fixed(make([]byte, ahead))
				k.put(o)
				if limit >= n {
					isBytes(t, name, o, append(make([]byte, ahead), k.bytes...))
				} else {
					staysWrong(t, name, o)
				}
				if limit == n {
					o.U8(0)
					staysWrong(t, name+", and one more", o)
				}
			}
		}
	}
	most := wire.NewOut(math.MaxInt)
	most.U8(1, 2)
	isBytes(t, "the highest limit", most, []byte{1, 2})
}

// P8.1: many that are handed in at once, of which the last one is past the limit.
func TestLimitWithinMany(t *testing.T) {
	for name, f := range map[string]func(o *wire.Out){
		"U8":     func(o *wire.Out) { o.U8(make([]uint8, 16)...) },
		"U32":    func(o *wire.Out) { o.U32(1, 2, 3, 4) },
		"U64":    func(o *wire.Out) { o.U64(1, 2) },
		"Flag":   func(o *wire.Out) { o.Flag(make([]bool, 16)...) },
		"Fixed":  func(o *wire.Out) { o.Fixed(make([]byte, 8), make([]byte, 7), make([]byte, 1)) },
		"Sized":  func(o *wire.Out) { o.Sized(14, make([]byte, 14)) },
		"a list": func(o *wire.Out) { wire.PutList(o, 14, make([]uint8, 14), putByte) },
	} {
		just := wire.NewOut(16)
		f(just)
		if b, e := just.Bytes(); len(b) != 16 || e != api.OK {
			t.Errorf("%s: % x, error %d", name, b, e)
		}
		for limit := range 16 {
			o := wire.NewOut(limit)
			f(o)
			staysWrong(t, name+" of 16 bytes, limit "+strconv.Itoa(limit), o)
		}
	}
}

// P8.1: at the limit 0 no bytes are put; below 0 none are few enough.
func TestNoLimit(t *testing.T) {
	o := wire.NewOut(0)
	isBytes(t, "limit 0", o, nil)
	o.U8()
	o.U32()
	o.U64()
	o.Flag()
	o.Fixed()
	o.Fixed(nil, []byte{})
	isBytes(t, "limit 0, and no bytes", o, nil)
	for _, k := range every() {
		o := wire.NewOut(0)
		k.put(o)
		staysWrong(t, "limit 0, and "+k.name, o)
	}
	for _, limit := range []int{-1, -2, -1000, math.MinInt + 1, math.MinInt} {
		staysWrong(t, "limit "+strconv.Itoa(limit), wire.NewOut(limit))
		for _, k := range every() {
			o := wire.NewOut(limit)
			k.put(o)
			staysWrong(t, "limit "+strconv.Itoa(limit)+", and "+k.name, o)
		}
	}
}

// P8.1: with each way to be wrong: nothing is put from then on, whatever it is, and no entry is asked for.
func TestWrongStays(t *testing.T) {
	for name, wrong := range map[string]func(o *wire.Out){
		"U8":                  func(o *wire.Out) { o.U8(make([]uint8, 101)...) },
		"U32":                 func(o *wire.Out) { o.U32(make([]uint32, 26)...) },
		"U64":                 func(o *wire.Out) { o.U64(make([]uint64, 13)...) },
		"Flag":                func(o *wire.Out) { o.Flag(make([]bool, 101)...) },
		"Fixed":               func(o *wire.Out) { o.Fixed(make([]byte, 101)) },
		"Sized":               func(o *wire.Out) { o.Sized(200, make([]byte, 99)) },
		"Sized, most":         func(o *wire.Out) { o.Sized(1, make([]byte, 2)) },
		"Sized, below 0":      func(o *wire.Out) { o.Sized(-1, nil) },
		"a list":              func(o *wire.Out) { wire.PutList(o, 200, make([]uint8, 99), putByte) },
		"a list, most":        func(o *wire.Out) { wire.PutList(o, 1, []uint8{1, 2}, putByte) },
		"a list, below 0":     func(o *wire.Out) { wire.PutList(o, -1, nil, putByte) },
		"a list, no function": func(o *wire.Out) { wire.PutList(o, 4, []uint8{1}, nil) },
	} {
		for ahead := range 3 {
			o := wire.NewOut(100)
			o.Fixed(make([]byte, ahead))
			if _, e := o.Bytes(); e != api.OK {
				t.Errorf("%s: error %d ahead of it", name, e)
			}
			wrong(o)
			staysWrong(t, name, o)
			wire.PutList(o, 4, []uint8{1, 2}, func(*wire.Out, uint8) { t.Errorf("%s: asked of an entry then", name) })
			wrong(o)
			staysWrong(t, name+", twice", o)
		}
	}
}

// P8.1: Bytes are in memory of their own each time; neither they nor what was handed in is the writer's.
func TestBytesOwn(t *testing.T) {
	fixed, sized, list, numbers, words := []byte("fix"), []byte("sized"), []uint8{1, 2}, []uint8{3, 4, 5}, []uint32{6, 7}
	o := wire.NewOut(room)
	o.U8(numbers...)
	o.U32(words...)
	o.Fixed(fixed)
	o.Sized(9, sized)
	wire.PutList(o, 9, list, putByte)
	want := []byte("\x03\x04\x05\x00\x00\x00\x06\x00\x00\x00\x07fix\x00\x05sized\x00\x02\x01\x02")
	first, _ := o.Bytes()
	second, _ := o.Bytes()
	if !bytes.Equal(first, want) || !bytes.Equal(second, want) {
		t.Fatalf("% x, % x; not % x", first, second, want)
	}
	clear(first)
	isBytes(t, "behind writing to its bytes", o, want)
	if !bytes.Equal(second, want) {
		t.Errorf("bytes of before have become % x", second)
	}
	_ = append(second[:3], "over and over"...)
	isBytes(t, "behind appending to its bytes", o, want)
	clear(fixed)
	clear(sized)
	clear(list)
	clear(numbers)
	clear(words)
	isBytes(t, "behind writing to what was handed in", o, want)

	third, _ := o.Bytes()
	o.U8(0xaa)
	third = append(third, 0xbb)
	isBytes(t, "behind putting more", o, append(slices.Clone(want), 0xaa))
	if !bytes.Equal(third, append(slices.Clone(want), 0xbb)) {
		t.Errorf("bytes of before have become % x", third)
	}
}

// R3: what is handed in is not changed by putting, and by writing to the bytes.
func TestHandedInStays(t *testing.T) {
	whole := []byte("0123456789")
	l := []uint32{1, 2, 3, 4}
	o := wire.NewOut(room)
	o.Fixed(whole[2:4])
	o.Sized(4, whole[4:6])
	o.U8(whole[:2]...)
	o.U32(l[:2]...)
	wire.PutList(o, 4, l[1:3], putWord)
	o.U8(1, 2, 3)
	b, _ := o.Bytes()
	clear(b)
	if string(whole) != "0123456789" || !slices.Equal(l, []uint32{1, 2, 3, 4}) {
		t.Errorf("handed in, and now %q, %v", whole, l)
	}

	empty := wire.NewOut(room)
	empty.Fixed(whole[:0])
	empty.U8(whole[:0]...)
	empty.U8(9, 9)
	if string(whole) != "0123456789" {
		t.Errorf("none of it was handed in, and now it is %q", whole)
	}
}

// P8.2: with too few bytes for it, each field is wrong, and zero, whatever these bytes are; with as many it is not.
func TestTooFew(t *testing.T) {
	for _, k := range every() {
		for n := range k.bytes {
			for _, ahead := range []int{0, 1, 5} {
				i := wire.NewIn(append(bytes.Repeat([]byte{0xee}, ahead), k.bytes[:n]...))
				i.Fixed(ahead)
				if e := i.End(); n > 0 && e != api.ErrBytes || n == 0 && e != api.OK || i.Left() != n {
					t.Errorf("%s: ahead of it %d left, error %d", k.name, i.Left(), e)
				}
				if !k.takesZero(i) {
					t.Errorf("%s of its first %d bytes: not zero", k.name, n)
				}
				staysBad(t, k.name+" of its first "+strconv.Itoa(n)+" bytes", i)
			}
		}
		i := wire.NewIn(k.bytes)
		if !k.takes(i) {
			t.Errorf("%s: not as it was", k.name)
		}
		isTaken(t, k.name, i)
		if !k.takesZero(i) {
			t.Errorf("%s: again, not zero", k.name)
		}
		staysBad(t, k.name+", again", i)
	}
	staysBad(t, "one byte of four", taken(wire.NewIn([]byte{1}), func(i *wire.In) { i.U32() }))
}

// taken is the reader, when that was taken.
func taken(i *wire.In, take func(i *wire.In)) *wire.In {
	take(i)
	return i
}

// P8.2: of all 256 bytes 1 is true, 0 is false, and each other one is wrong.
func TestFlags(t *testing.T) {
	for n := range 256 {
		i := wire.NewIn([]byte{byte(n), 1, 1})
		yes := i.Flag()
		if yes != (n == 1) {
			t.Errorf("%d: %v", n, yes)
		}
		if n > 1 {
			staysBad(t, "the truth value "+strconv.Itoa(n), i)
		} else if i.Left() != 2 || !i.Flag() || !i.Flag() {
			t.Errorf("%d: what is behind it is not taken", n)
		} else {
			isTaken(t, strconv.Itoa(n), i)
		}
	}
}

// P8.2: Fixed of n below 0 is wrong; of 0 it takes none; of all that is left these; of one more it is wrong.
func TestTakeFixed(t *testing.T) {
	whole := drawn(3, 300)
	for _, size := range []int{0, 1, 2, 5, 300} {
		for _, at := range []int{0, size / 2, size} {
			left := size - at
			at := func() *wire.In { return taken(wire.NewIn(whole[:size]), func(i *wire.In) { i.Fixed(at) }) }
			for n := range left + 1 {
				i := at()
				if b := i.Fixed(n); !bytes.Equal(b, whole[size-left:size-left+n]) {
					t.Errorf("%d of %d: % x", n, left, head(b))
				}
				if i.Left() != left-n {
					t.Errorf("%d of %d: %d left", n, left, i.Left())
				}
				i.Fixed(left - n)
				isTaken(t, "all", i)
			}
			for _, n := range []int{-1, -2, -300, math.MinInt, math.MinInt32, left + 1, left + 2, left + 300, math.MaxInt32, math.MaxInt} {
				i := at()
				if b := i.Fixed(n); len(b) != 0 {
					t.Errorf("%d of %d: % x", n, left, head(b))
				}
				staysBad(t, strconv.Itoa(n)+" of "+strconv.Itoa(left), i)
			}
		}
	}
}

// P8.2: Sized and TakeList take as many as most; with one more, or most below 0, they are wrong. A list of nothings, whose entries have no bytes, has no other bound.
func TestTakeMost(t *testing.T) {
	for _, c := range append(slices.Clone(mosts), struct {
		most, n int
		may     bool
	}{told + 1, told, true}) {
		name := strconv.Itoa(c.n) + ", most " + strconv.Itoa(c.most)
		entries := drawn(c.n, c.n)
		b := append([]byte{byte(c.n >> 8), byte(c.n)}, entries...)
		b = append(b, 7)

		sized := wire.NewIn(b)
		got := sized.Sized(c.most)
		tells(t, "Sized of "+name, sized, c.may, got, entries)

		list := wire.NewIn(b)
		asked := 0
		l := wire.TakeList(list, c.most, func(i *wire.In) uint8 {
			asked++
			return i.U8()
		})
		tells(t, "a list of "+name, list, c.may, l, entries)
		if c.may && asked != c.n || !c.may && asked != 0 {
			t.Errorf("a list of %s: asked %d times", name, asked)
		}

		nothings := wire.NewIn([]byte{byte(c.n >> 8), byte(c.n), 7})
		tells(t, "a list of nothings of "+name, nothings, c.may, make([]byte, len(wire.TakeList(nothings, c.most, takeNothing))), make([]byte, c.n))

		none := wire.NewIn(b)
		if l := wire.TakeList[uint8](none, c.most, nil); len(l) != 0 {
			t.Errorf("a list of %s, without a function: %d entries", name, len(l))
		}
		staysBad(t, "a list of "+name+", without a function", none)
	}
}

// tells tells where what was taken is not these, with the byte 7 behind them; or, if it may not be, where it is not wrong.
func tells(t *testing.T, name string, i *wire.In, may bool, got, want []byte) {
	t.Helper()
	if !may {
		if len(got) != 0 {
			t.Errorf("%s: %d are taken", name, len(got))
		}
		staysBad(t, name, i)
		return
	}
	if !bytes.Equal(got, want) {
		t.Errorf("%s: % x; not % x", name, head(got), head(want))
	}
	if i.Left() != 1 || i.U8() != 7 {
		t.Errorf("%s: what is behind is not taken", name)
	}
	isTaken(t, name, i)
}

// P8.2: of an entry that is wrong the whole list is none; those behind it are not asked.
func TestTakeListWrongWithin(t *testing.T) {
	for at := range 4 {
		b := []byte{0, 4, 1, 1, 1, 1, 9}
		b[2+at] = 2
		i := wire.NewIn(b)
		asked := 0
		l := wire.TakeList(i, 9, func(i *wire.In) bool {
			asked++
			return i.Flag()
		})
		if len(l) != 0 || asked != at+1 {
			t.Errorf("wrong at %d: %v, asked %d times", at, l, asked)
		}
		staysBad(t, "wrong at "+strconv.Itoa(at), i)
	}
}

// P8.2: the reader that is handed in to the function is the list's.
func TestTakeListAsks(t *testing.T) {
	i := wire.NewIn([]byte{0, 2, 5, 6, 7})
	l := wire.TakeList(i, 2, func(given *wire.In) int {
		if given != i {
			t.Error("another reader is handed in")
		}
		return 100*given.Left() + int(given.U8())
	})
	if !slices.Equal(l, []int{305, 206}) || i.U8() != 7 {
		t.Errorf("%v", l)
	}
	isTaken(t, "a list", i)
}

// R1: a list of few bytes that says that it has many great entries ends, without memory for them.
func TestTakeListOfFewBytes(t *testing.T) {
	type great [1 << 22]byte
	i := wire.NewIn([]byte{0xff, 0xff, 1})
	asked := 0
	l := wire.TakeList(i, told, func(i *wire.In) (g great) {
		asked++
		g[0] = i.U8()
		return g
	})
	if len(l) != 0 || asked != 2 {
		t.Errorf("%d entries, asked %d times", len(l), asked)
	}
	staysBad(t, "a list of few bytes", i)
}

// P8.2: from what is wrong on nothing is taken, and no entry asked for.
func TestBadStays(t *testing.T) {
	for name, wrong := range map[string]func(i *wire.In){
		"U32":                 func(i *wire.In) { i.Fixed(i.Left() - 3); i.U32() },
		"U64":                 func(i *wire.In) { i.Fixed(i.Left() - 7); i.U64() },
		"U8":                  func(i *wire.In) { i.Fixed(i.Left()); i.U8() },
		"Flag":                func(i *wire.In) { i.Flag() },
		"Flag, none left":     func(i *wire.In) { i.Fixed(i.Left()); i.Flag() },
		"Fixed":               func(i *wire.In) { i.Fixed(i.Left() + 1) },
		"Fixed, below 0":      func(i *wire.In) { i.Fixed(-1) },
		"Sized":               func(i *wire.In) { i.Sized(math.MaxInt) },
		"Sized, most":         func(i *wire.In) { i.Sized(2) },
		"a list":              func(i *wire.In) { wire.TakeList(i, math.MaxInt, takeByte) },
		"a list, most":        func(i *wire.In) { wire.TakeList(i, 2, takeNothing) },
		"a list, no function": func(i *wire.In) { wire.TakeList[uint8](i, math.MaxInt, nil) },
	} {
		i := wire.NewIn(bytes.Repeat([]byte{3}, 60))
		if i.U8() != 3 || i.Left() != 59 {
			t.Errorf("%s: wrong ahead of it", name)
		}
		wrong(i)
		staysBad(t, name, i)
		wire.TakeList(i, 4, func(*wire.In) bool { t.Errorf("%s: asked for an entry then", name); return true })
		wrong(i)
		staysBad(t, name+", twice", i)
	}
}

// P8.2: Left and End at each place; they may be asked, and what is left is taken all the same.
func TestLeftAndEnd(t *testing.T) {
	var whole []byte
	for _, k := range every() {
		whole = append(whole, k.bytes...)
	}
	for _, behind := range []int{0, 1, 9} {
		i := wire.NewIn(append(slices.Clone(whole), make([]byte, behind)...))
		left := len(whole) + behind
		at := func(name string) {
			want := api.ErrBytes
			if left == 0 {
				want = api.OK
			}
			for range 2 {
				if l, e := i.Left(), i.End(); l != left || e != want {
					t.Errorf("behind %s: %d left, error %d; not %d, %d", name, l, e, left, want)
				}
			}
		}
		at("nothing")
		for _, k := range every() {
			if !k.takes(i) {
				t.Errorf("%s: not taken as it was", k.name)
			}
			left -= len(k.bytes)
			at(k.name)
		}
		for range behind {
			i.U8()
			left--
			at("what is more")
		}
	}
	isTaken(t, "no bytes", wire.NewIn([]byte{}))
	isTaken(t, "a nil list of bytes", wire.NewIn(nil))
}

// P8.2, R3: what is taken is in memory of its own; what was handed in is neither kept nor changed.
func TestTakenOwn(t *testing.T) {
	const text = "\x00\x02hifix\x00\x00\x00\x02\x00\x01a\x00\x01bend"
	given := []byte(text)
	i := wire.NewIn(given[:len(given)-3])
	copied := func(i *wire.In) []byte { return i.Sized(9) }
	sized := i.Sized(9)
	fixed := i.Fixed(3)
	none := i.Sized(9)
	if string(sized) != "hi" || string(fixed) != "fix" || len(none) != 0 {
		t.Fatalf("%q, %q, %q", sized, fixed, none)
	}
	_ = append(sized, "over and over and over"...)
	_ = append(fixed, "over and over and over"...)
	_ = append(none, "over and over and over"...)
	clear(sized)
	if string(given) != text || string(fixed) != "fix" {
		t.Errorf("behind writing to what was taken: %q, %q", given, fixed)
	}
	clear(given)
	l := wire.TakeList(i, 2, copied)
	if len(l) != 2 || string(l[0]) != "a" || string(l[1]) != "b" {
		t.Fatalf("behind writing to what was handed in: %q", l)
	}
	_ = append(l[0], "over"...)
	if string(l[1]) != "b" {
		t.Errorf("behind appending to an entry: %q", l)
	}
	isTaken(t, "all", i)

	again := []byte("abc")
	a, b := wire.NewIn(again), wire.NewIn(again)
	a.Fixed(2)
	clear(a.Fixed(1))
	if b.Left() != 3 || string(b.Fixed(3)) != "abc" || string(again) != "abc" {
		t.Errorf("of two readers of the same bytes one changes what the other has, or %q", again)
	}
}

// R4: of a nil writer nothing, ErrNil; of a nil reader zero, 0, ErrNil; no function is asked.
func TestNil(t *testing.T) {
	var o *wire.Out
	nothingPut := func(behind string) {
		if b, e := o.Bytes(); len(b) != 0 || e != api.ErrNil {
			t.Errorf("behind %s: % x, error %d", behind, b, e)
		}
	}
	nothingPut("nothing")
	for _, k := range every() {
		k.put(o)
		nothingPut(k.name)
	}
	o.U8()
	o.U32(1, 2)
	o.U64(1, 2)
	o.Flag(true, false)
	o.Fixed(nil, []byte{1})
	o.Sized(-1, nil)
	o.Sized(told+1, make([]byte, told+1))
	wire.PutList(o, 4, []int{1, 2}, func(*wire.Out, int) { t.Error("asked of an entry") })
	wire.PutList(o, -1, []int{1, 2}, func(*wire.Out, int) { t.Error("asked of an entry") })
	wire.PutList[int](o, 4, []int{1}, nil)
	wire.PutList[int](o, 4, nil, nil)
	nothingPut("all")

	var i *wire.In
	nothingTaken := func(behind string) {
		if left, e := i.Left(), i.End(); left != 0 || e != api.ErrNil {
			t.Errorf("behind %s: %d left, error %d", behind, left, e)
		}
	}
	nothingTaken("nothing")
	for _, k := range every() {
		if !k.takesZero(i) {
			t.Errorf("%s: not zero", k.name)
		}
		nothingTaken(k.name)
	}
	for _, n := range []int{math.MinInt, -1, 0, 1, math.MaxInt} {
		l := wire.TakeList(i, n, func(*wire.In) int { t.Error("asked for an entry"); return 1 })
		if len(i.Fixed(n)) != 0 || len(i.Sized(n)) != 0 || len(l) != 0 || len(wire.TakeList[int](i, n, nil)) != 0 {
			t.Errorf("%d: something is taken of nil", n)
		}
		nothingTaken(strconv.Itoa(n))
	}
}

// R5: what is put by one writer, or taken by one reader, is nothing to another one.
func TestApart(t *testing.T) {
	a, b := wire.NewOut(2), wire.NewOut(2)
	a.U8(1)
	b.U8(2, 3, 4)
	a.U8(5)
	isBytes(t, "the one", a, []byte{1, 5})
	isWrong(t, "the other", b)
	x, y := wire.NewIn([]byte{1, 2}), wire.NewIn([]byte{3})
	y.U32()
	if x.U8() != 1 || x.U8() != 2 {
		t.Error("a reader takes another thing, when another one is wrong")
	}
	isTaken(t, "the one", x)
	staysBad(t, "the other", y)
}

// drawn are n bytes, the same ones at each run for each seed.
func drawn(seed, n int) []byte {
	b := make([]byte, n)
	rand.New(rand.NewSource(int64(seed))).Read(b)
	return b
}
