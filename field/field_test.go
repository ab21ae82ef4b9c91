package field_test

import (
	"bytes"
	"encoding/hex"
	"math"
	"math/big"
	"math/rand"
	"slices"
	"strings"
	"sync"
	"testing"

	"hailer/field"
)

// p is 2^255 - 19.
func p() *big.Int { return number(1, 255, -19) }

// number is n times 2^k, and d besides.
func number(n int64, k uint, d int64) *big.Int {
	x := new(big.Int).Lsh(big.NewInt(n), k)
	return x.Add(x, big.NewInt(d))
}

// modulo is the number from 0 to p - 1 that n is modulo p.
func modulo(n *big.Int) *big.Int { return new(big.Int).Mod(n, p()) }

// lowest are the number's 32 bytes, the lowest first.
func lowest(n *big.Int) (b [32]byte) {
	n.FillBytes(b[:])
	slices.Reverse(b[:])
	return b
}

// counted is the number of all bits of the bytes, the lowest first.
func counted(b [32]byte) *big.Int {
	slices.Reverse(b[:])
	return new(big.Int).SetBytes(b[:])
}

// of is the number, handed in as the bytes of n, which may be p or more.
func of(n *big.Int) field.Num { return field.Of(lowest(n)) }

// drawn are n numbers below 2^256, the same ones at each run for each seed.
func drawn(seed, n int) []*big.Int {
	r := rand.New(rand.NewSource(int64(seed)))
	l := make([]*big.Int, n)
	for i := range l {
		l[i] = new(big.Int).Rand(r, number(1, 256, 0))
	}
	return l
}

// unhex are the bytes written so, to the base 16; blanks between them are passed over.
func unhex(t *testing.T, s string) [32]byte {
	t.Helper()
	b, err := hex.DecodeString(strings.ReplaceAll(s, " ", ""))
	if err != nil {
		t.Fatal(err)
	}
	return [32]byte(b)
}

// holds tells where x is another number than n modulo p.
func holds(t *testing.T, x field.Num, n *big.Int, what ...any) {
	t.Helper()
	if got, want := x.Bytes(), lowest(modulo(n)); got != want {
		t.Errorf("%v: %x, not %x", what, got, want)
	}
}

// edges are 0, 1, 2, and others about 0, p and 2^255, with bytes of their own each (some are one number).
func edges() []*big.Int {
	var l []*big.Int
	for d := int64(0); d < 40; d++ {
		l = append(l, big.NewInt(d), number(1, 255, -1-d))
	}
	half := new(big.Int).Rsh(p(), 1)
	return append(l, half, new(big.Int).Add(half, big.NewInt(1)))
}

// atLimbs are numbers near the edges of limbs, whatever bits these have: each power of 2, one less, one more, 19 less and 19 more.
func atLimbs() (l []*big.Int) {
	for k := range uint(255) {
		for _, d := range []int64{-19, -1, 0, 1, 19} {
			if n := number(1, k, d); n.Sign() >= 0 {
				l = append(l, n)
			}
		}
	}
	return l
}

// ofLimbs are numbers of five limbs, each of which is 0, 1, or as great as it may be.
func ofLimbs() []*big.Int {
	l := []*big.Int{new(big.Int)}
	for range 5 {
		var more []*big.Int
		for _, n := range l {
			for _, limb := range []*big.Int{big.NewInt(0), big.NewInt(1), number(1, 51, -1)} {
				x := new(big.Int).Lsh(n, 51)
				more = append(more, x.Add(x, limb))
			}
		}
		l = more
	}
	return l
}

// all are the numbers of all these lists, and drawn ones.
func all() []*big.Int {
	l := slices.Concat(edges(), atLimbs(), ofLimbs())
	for _, n := range drawn(1, 200) {
		l = append(l, n.SetBit(n, 255, 0))
	}
	return l
}

// few are some of them, few enough for threes.
func few() []*big.Int {
	l := []*big.Int{
		big.NewInt(0), big.NewInt(1), big.NewInt(2), number(1, 255, -20), number(1, 255, -19), number(1, 255, -1),
		number(1, 51, -1), number(1, 51, 0), number(1, 102, -1), number(1, 204, 0), number(1, 254, 0),
	}
	for _, n := range drawn(2, 9) {
		l = append(l, n.SetBit(n, 255, 0))
	}
	return l
}

// P6.1, P6.2: the chapter's examples.
func TestExamples(t *testing.T) {
	ff := strings.Repeat("ff", 30)
	for _, x := range []struct {
		what string
		x    field.Num
		b    string
	}{
		{"2 less 3", field.Small(2).Sub(field.Small(3)), "ec" + ff + "7f"},
		{"of p's bytes", field.Of(unhex(t, "ed"+ff+"7f")), strings.Repeat("00", 32)},
		{"of bytes 255", field.Of(unhex(t, "ffff"+ff)), "12" + strings.Repeat("00", 31)},
		{"the inverse of 2", field.Small(2).Inverse(), "f7" + ff + "3f"},
	} {
		if b := x.x.Bytes(); b != unhex(t, x.b) {
			t.Errorf("%s: %x, not %s", x.what, b, x.b)
		}
	}
}

// P6.1, P6.2: published numbers of the field (RFC 8032): one that is p - 1 by itself, and 121665 by 121666, taken from 0.
func TestPublished(t *testing.T) {
	root := field.Of(unhex(t, "b0a00e4a271beec478e42fad0618432f a7d7fb3d99004d2b0bdfc14f8024832b"))
	holds(t, root.Mul(root), number(1, 255, -20), "the root of -1, by itself")
	d := field.Num{}.Sub(field.Small(121665).Mul(field.Small(121666).Inverse()))
	if want := unhex(t, "a3785913ca4deb75abd841414d0a7000 98e879777940c78c73fe6f2bee6c0352"); d.Bytes() != want {
		t.Errorf("%x, not %x", d.Bytes(), want)
	}
}

// P6.1: bytes below p are told as they were, others modulo p; with the last one's highest bit set they are the same number.
func TestOfBytes(t *testing.T) {
	l := append(all(), number(1, 256, -39)) // 2p - 1
	for _, n := range slices.Concat(l, drawn(3, 2000)) {
		b := lowest(n)
		for _, high := range []byte{0, 128} {
			b[31] = b[31]&127 | high
			want := lowest(modulo(new(big.Int).SetBit(counted(b), 255, 0)))
			if got := field.Of(b).Bytes(); got != want {
				t.Errorf("of %x: %x, not %x", b, got, want)
			}
			if !field.Of(b).Is(field.Of(want)) {
				t.Errorf("of %x: another number than of %x", b, want)
			}
		}
	}
}

// P6.1: each bit counts as it should, the highest of the last byte for nothing.
func TestOfEachBit(t *testing.T) {
	for bit := range 256 {
		b, want := [32]byte{}, [32]byte{}
		b[bit/8] = 1 << (bit % 8)
		if bit < 255 {
			want = b
		}
		if got := field.Of(b).Bytes(); got != want {
			t.Errorf("bit %d: %x", bit, got)
		}
	}
}

// P6.1: small numbers: at either end, at each power of 2, and between.
func TestSmall(t *testing.T) {
	l := []uint32{0, 1, 2, 19, 121665, 486662, math.MaxUint32 - 1, math.MaxUint32}
	for k := range 32 {
		l = append(l, 1<<k-1, 1<<k, 1<<k+1, rand.New(rand.NewSource(int64(k))).Uint32())
	}
	for _, n := range l {
		holds(t, field.Small(n), big.NewInt(int64(n)), "small", n)
		if !field.Small(n).Is(of(big.NewInt(int64(n)))) {
			t.Errorf("%d: another number than that of its bytes", n)
		}
	}
}

// P6.1, P6.2, P6.3: a number that is zero is 0, whatever it is asked.
func TestZero(t *testing.T) {
	zero := field.Num{}
	holds(t, zero, new(big.Int), "zero")
	holds(t, zero.Inverse(), new(big.Int), "its inverse")
	if !zero.Is(field.Small(0)) || !field.Small(0).Is(zero) || !zero.Is(zero) || !zero.Is(of(p())) || zero.Is(field.Small(1)) {
		t.Error("another number than 0")
	}
	for _, n := range all() {
		x := of(n)
		holds(t, zero.Add(x), n, "0 and", n)
		holds(t, x.Add(zero), n, n, "and 0")
		holds(t, x.Sub(zero), n, n, "less 0")
		holds(t, zero.Sub(x), new(big.Int).Neg(n), "0 less", n)
		holds(t, zero.Mul(x), new(big.Int), "0 times", n)
		holds(t, x.Mul(zero), new(big.Int), n, "times 0")
		a, b := zero, x
		field.Swap(1, &a, &b)
		holds(t, a, n, n, "changed for 0")
		holds(t, b, new(big.Int), "0 changed for", n)
	}
}

// P6.1: of each two numbers Is tells whether they are one modulo p.
func TestIs(t *testing.T) {
	l := slices.Concat(edges(), ofLimbs())
	for _, n := range l {
		for _, m := range l {
			if is := of(n).Is(of(m)); is != (modulo(n).Cmp(modulo(m)) == 0) {
				t.Errorf("%d and %d: %t", n, m, is)
			}
		}
	}
}

// P6.1: numbers with one bit that is unlike are not one, whichever it is; nor are a number and what is that far from 0 on the other side.
func TestIsNot(t *testing.T) {
	for _, n := range few() {
		x := of(n)
		for bit := range 255 {
			m := new(big.Int).SetBit(n, bit, 1-n.Bit(bit))
			if is := x.Is(of(m)); is != (modulo(n).Cmp(modulo(m)) == 0) {
				t.Errorf("%d with bit %d changed: %t", n, bit, is)
			}
		}
		if is := x.Is(field.Num{}.Sub(x)); is != (modulo(n).Sign() == 0) {
			t.Errorf("%d and 0 less it: %t", n, is)
		}
	}
}

// P6.1: numbers that came by different ways to one number are one, and have the same bytes.
func TestIsOtherWays(t *testing.T) {
	zero, one := field.Num{}, field.Small(1)
	for _, n := range all() {
		x := of(n)
		for _, m := range few() {
			y := of(m)
			ways := []field.Num{
				x.Add(y).Sub(y), x.Sub(y).Add(y), y.Sub(y.Sub(x)), zero.Sub(y.Sub(x)).Add(y), x.Add(x).Sub(x),
				of(modulo(n)), x.Mul(one), field.Of(x.Bytes()), x.Mul(y).Add(x).Sub(y.Mul(x)), x.Add(of(p())),
			}
			for i, way := range ways {
				if !way.Is(x) || !x.Is(way) || way.Bytes() != x.Bytes() {
					t.Errorf("%d with %d, way %d: %x", n, m, i, way.Bytes())
				}
				if way.Is(x.Add(one)) || x.Sub(one).Is(way) {
					t.Errorf("%d with %d, way %d: one with 1 more, or less", n, m, i)
				}
			}
		}
	}
}

// sums tells where the sum, the differences or the product of two numbers are others than those of integers modulo p.
func sums(t *testing.T, x, y field.Num, n, m *big.Int) {
	t.Helper()
	holds(t, x.Add(y), new(big.Int).Add(n, m), n, "and", m)
	holds(t, x.Sub(y), new(big.Int).Sub(n, m), n, "less", m)
	holds(t, y.Sub(x), new(big.Int).Sub(m, n), m, "less", n)
	holds(t, x.Mul(y), new(big.Int).Mul(n, m), n, "times", m)
}

// P6.2: sums, differences and products of each two at the edges, and of drawn ones with all.
func TestSums(t *testing.T) {
	l := slices.Concat(edges(), ofLimbs())
	for i, n := range l {
		for _, m := range l[i:] {
			sums(t, of(n), of(m), n, m)
		}
	}
	for _, n := range all() {
		for _, m := range few() {
			sums(t, of(n), of(m), n, m)
		}
	}
	for i, n := range drawn(4, 3000) {
		m := drawn(5+i, 1)[0]
		n.SetBit(n, 255, 0)
		m.SetBit(m, 255, 0)
		sums(t, of(n), of(m), n, m)
	}
}

// P6.2: with itself: twice a number, 0, and its square.
func TestWithItself(t *testing.T) {
	for _, n := range all() {
		x := of(n)
		sums(t, x, x, n, n)
	}
}

// P6.2: sums, differences and products of what itself came of sums and differences, and was told as bytes nowhere between.
func TestSumsOfSums(t *testing.T) {
	l := few()
	var xs []field.Num
	var ns []*big.Int
	for _, n := range l {
		for _, m := range l {
			x, y := of(n), of(m)
			xs = append(xs, x.Add(y), x.Sub(y), x.Add(x).Add(y.Add(y)), x.Mul(y))
			sum := new(big.Int).Add(n, m)
			ns = append(ns, sum, new(big.Int).Sub(n, m), new(big.Int).Lsh(sum, 1), new(big.Int).Mul(n, m))
		}
	}
	for i := range xs {
		for j := i % 7; j < len(xs); j += 7 {
			sums(t, xs[i], xs[j], ns[i], ns[j])
		}
	}
}

// P6.2: one step hundreds of times, from numbers at the edges on.
func TestOneStepAgainAndAgain(t *testing.T) {
	for _, n := range few() {
		for _, m := range few() {
			y, doubled, added, less, from, times, square := of(m), of(n), of(n), of(n), of(n), of(n), of(n)
			d, a, l, f, s, q := modulo(n), modulo(n), modulo(n), modulo(n), modulo(n), modulo(n)
			for i := range 300 {
				doubled, d = doubled.Add(doubled), modulo(d.Add(d, d))
				added, a = added.Add(y), modulo(a.Add(a, m))
				less, l = less.Sub(y), modulo(l.Sub(l, m))
				from, f = y.Sub(from), modulo(f.Sub(m, f))
				times, s = times.Mul(y), modulo(s.Mul(s, m))
				square, q = square.Mul(square), modulo(q.Mul(q, q))
				if i%50 == 49 {
					holds(t, doubled, d, n, "doubled,", i)
					holds(t, added, a, n, "and", m, i)
					holds(t, less, l, n, "less", m, i)
					holds(t, from, f, m, "less", n, i)
					holds(t, times, s, n, "times", m, i)
					holds(t, square, q, n, "squared,", i)
				}
			}
		}
	}
}

// P6.2: hundreds of drawn steps, one behind the other, over some numbers.
func TestDrawnSteps(t *testing.T) {
	for seed := range 40 {
		r := rand.New(rand.NewSource(int64(seed)))
		ns := few()
		xs := make([]field.Num, len(ns))
		for i, n := range ns {
			xs[i] = of(n)
		}
		for step := range 600 {
			i, j, k := r.Intn(len(xs)), r.Intn(len(xs)), r.Intn(len(xs))
			x, y, n, m := xs[i], xs[j], ns[i], ns[j]
			switch r.Intn(10) {
			case 0, 1, 2:
				xs[k], ns[k] = x.Add(y), modulo(new(big.Int).Add(n, m))
			case 3, 4, 5:
				xs[k], ns[k] = x.Sub(y), modulo(new(big.Int).Sub(n, m))
			case 6, 7, 8:
				xs[k], ns[k] = x.Mul(y), modulo(new(big.Int).Mul(n, m))
			default:
				field.Swap(uint64(step&1), &xs[i], &xs[j])
				if step&1 == 1 {
					ns[i], ns[j] = ns[j], ns[i]
				}
			}
			holds(t, xs[k], ns[k], "seed", seed, "step", step)
		}
		for i := range xs {
			holds(t, xs[i], ns[i], "seed", seed, "place", i)
		}
	}
}

// P6.2: the inverse of 0 is 0; any other number multiplied by its inverse is 1, and its inverse is the integers' one.
func TestInverse(t *testing.T) {
	one := field.Small(1)
	for _, n := range all() {
		x := of(n)
		y := x.Inverse()
		if modulo(n).Sign() == 0 {
			holds(t, y, new(big.Int), "the inverse of", n)
			continue
		}
		holds(t, y, new(big.Int).ModInverse(n, p()), "the inverse of", n)
		if !x.Mul(y).Is(one) || !y.Mul(x).Is(one) || !y.Inverse().Is(x) {
			t.Errorf("%d: by its inverse %x", n, x.Mul(y).Bytes())
		}
	}
}

// P6.2: the inverse of 0, however it came to be 0.
func TestInverseOfZero(t *testing.T) {
	for _, n := range few() {
		x := of(n)
		for i, zero := range []field.Num{{}, field.Small(0), of(p()), x.Sub(x), field.Num{}.Sub(x).Add(x), x.Mul(of(p()))} {
			holds(t, zero.Inverse(), new(big.Int), "way", i, n)
		}
	}
}

// P6.2: inverses of inverses, sums and products, one behind the other.
func TestInverseSteps(t *testing.T) {
	for _, n := range few() {
		x, m := of(n), modulo(n)
		for i := range 100 {
			x, m = x.Inverse().Add(x), modulo(new(big.Int).Add(inverse(m), m))
			x, m = x.Sub(field.Small(3)).Inverse(), inverse(modulo(new(big.Int).Sub(m, big.NewInt(3))))
			holds(t, x, m, n, "step", i)
		}
	}
}

// inverse is the integers' inverse modulo p; 0 of 0.
func inverse(n *big.Int) *big.Int {
	if n.Sign() == 0 {
		return new(big.Int)
	}
	return new(big.Int).ModInverse(n, p())
}

// P6.3: the two are changed for one another if yes is 1, and are as they were if it is 0; also two that are alike.
func TestSwap(t *testing.T) {
	l := all()
	for i, n := range l {
		for _, m := range append(few(), n, l[(i+1)%len(l)]) {
			x, y := of(n), of(m)
			field.Swap(0, &x, &y)
			holds(t, x, n, "no: x", n, m)
			holds(t, y, m, "no: y", n, m)
			field.Swap(1, &x, &y)
			holds(t, x, m, "yes: x", n, m)
			holds(t, y, n, "yes: y", n, m)
			field.Swap(0, &y, &x)
			field.Swap(1, &y, &x)
			holds(t, x, n, "yes and back: x", n, m)
			holds(t, y, m, "yes and back: y", n, m)
		}
	}
}

// P6.3: numbers that came of sums, differences and products are changed for one another as they are, and go on as such.
func TestSwapInSteps(t *testing.T) {
	for _, n := range few() {
		for _, m := range few() {
			x, y := of(n).Sub(of(m)), of(n).Add(of(m))
			field.Swap(1, &x, &y)
			sums(t, x, y, new(big.Int).Add(n, m), new(big.Int).Sub(n, m))
			field.Swap(0, &x, &y)
			sums(t, x, y, new(big.Int).Add(n, m), new(big.Int).Sub(n, m))
		}
	}
}

// P6.3: with one and the same pointer twice, with one that is nil, or both, nothing is otherwise.
func TestSwapSameOrNil(t *testing.T) {
	for _, n := range all() {
		x := of(n)
		for _, yes := range []uint64{0, 1} {
			field.Swap(yes, &x, &x)
			holds(t, x, n, "one pointer, yes", yes)
			field.Swap(yes, &x, nil)
			holds(t, x, n, "nil behind, yes", yes)
			field.Swap(yes, nil, &x)
			holds(t, x, n, "nil ahead, yes", yes)
			field.Swap(yes, nil, nil)
		}
	}
}

// P6.3: what stands beside the two in their memory is left as it was.
func TestSwapBeside(t *testing.T) {
	l := few()[:7]
	for i := range l {
		for j := range l {
			var xs [7]field.Num
			for k, n := range l {
				xs[k] = of(n)
			}
			field.Swap(1, &xs[i], &xs[j])
			want := slices.Clone(l)
			want[i], want[j] = want[j], want[i]
			for k, n := range want {
				holds(t, xs[k], n, "of", i, j, "place", k)
			}
		}
	}
}

// P6.3, R1: of other numbers than 0 and 1 nothing is told; it ends, without a panic.
func TestSwapOthers(t *testing.T) {
	for _, yes := range []uint64{2, 3, 255, 256, math.MaxUint32, 1 << 63, math.MaxUint64} {
		x, y := of(number(1, 255, -20)), field.Small(2)
		field.Swap(yes, &x, &y)
		field.Swap(yes, &x, &x)
		field.Swap(yes, &x, nil)
		field.Swap(yes, nil, &x)
		x.Mul(y).Inverse().Bytes()
	}
}

// P6.4: sums and products hang neither on order nor on brackets; products are spread over sums.
func TestLaws(t *testing.T) {
	l := few()
	for _, n := range l {
		for _, m := range l {
			x, y := of(n), of(m)
			if !x.Add(y).Is(y.Add(x)) || !x.Mul(y).Is(y.Mul(x)) {
				t.Errorf("%d, %d: it hangs on the order", n, m)
			}
			if !x.Mul(y).Inverse().Is(y.Inverse().Mul(x.Inverse())) {
				t.Errorf("%d times %d: another inverse than the product of both", n, m)
			}
			for _, o := range l {
				z := of(o)
				if !x.Add(y).Add(z).Is(x.Add(y.Add(z))) || !x.Mul(y).Mul(z).Is(x.Mul(y.Mul(z))) {
					t.Errorf("%d, %d, %d: it hangs on brackets", n, m, o)
				}
				if !x.Add(y).Mul(z).Is(x.Mul(z).Add(y.Mul(z))) || !z.Mul(x.Sub(y)).Is(z.Mul(x).Sub(z.Mul(y))) {
					t.Errorf("%d, %d, %d: products are not spread", n, m, o)
				}
			}
		}
	}
}

// P6.4: 0 and 1 leave a number as it is; there is one that it is 0 with, and, if it is not 0, one that it is 1 by; a product is 0 just if one of its two is.
func TestLawsOfZeroAndOne(t *testing.T) {
	zero, one := field.Small(0), field.Small(1)
	for _, n := range all() {
		x := of(n)
		if !x.Add(zero).Is(x) || !x.Mul(one).Is(x) || !x.Add(zero.Sub(x)).Is(zero) {
			t.Errorf("%d: otherwise, with 0 or 1", n)
		}
		is := !x.Is(zero)
		if x.Mul(x.Inverse()).Is(one) != is || x.Inverse().Is(zero) == is {
			t.Errorf("%d: its inverse %x", n, x.Inverse().Bytes())
		}
		for _, m := range few() {
			y := of(m)
			if x.Mul(y).Is(zero) != (x.Is(zero) || y.Is(zero)) {
				t.Errorf("%d times %d: %x", n, m, x.Mul(y).Bytes())
			}
		}
	}
}

// R3: what is handed in to a function without pointers is left as it was.
func TestLeftAsItWas(t *testing.T) {
	for _, n := range all() {
		b := lowest(n)
		x := field.Of(b)
		if b != lowest(n) {
			t.Errorf("bytes %x: written into", lowest(n))
		}
		for _, m := range few() {
			y := of(m)
			x, y = x.Add(y).Sub(y), y.Add(x).Sub(x) // not as they were made
			wasX, wasY := x, y
			x.Add(y)
			x.Sub(y)
			x.Mul(y)
			x.Is(y)
			out := x.Bytes()
			clear(out[:])
			if x != wasX || y != wasY || x.Bytes() != lowest(modulo(n)) {
				t.Errorf("%d, %d: written into", n, m)
			}
		}
		was := x
		if x.Inverse(); x != was {
			t.Errorf("%d: written into", n)
		}
	}
}

// R5: what was asked ahead, and meanwhile by other goroutines, makes no difference.
func TestNothingElseCounts(t *testing.T) {
	l := few()
	want := make([][]byte, len(l))
	asked := func(i int) []byte {
		x, y := of(l[i]), of(l[(i+1)%len(l)])
		sum, less, product, inverse := x.Add(y).Bytes(), x.Sub(y).Bytes(), x.Mul(y).Bytes(), x.Inverse().Bytes()
		return slices.Concat(sum[:], less[:], product[:], inverse[:])
	}
	for i := range l {
		want[i] = asked(i)
	}
	var group sync.WaitGroup
	for seed := range 8 {
		group.Go(func() {
			for range 20 {
				for _, i := range rand.New(rand.NewSource(int64(seed))).Perm(len(l)) {
					if got := asked(i); !bytes.Equal(got, want[i]) {
						t.Errorf("%d: %x, not %x", l[i], got, want[i])
					}
				}
			}
		})
	}
	group.Wait()
}
