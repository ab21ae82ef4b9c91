package field

import (
	"math"
	"math/big"
	"math/rand"
	"testing"
)

// value is the number that the limbs count, not modulo p.
func value(x Num) *big.Int {
	n := new(big.Int)
	for i := len(x.limbs) - 1; i >= 0; i-- {
		n.Lsh(n, 51)
		n.Add(n, new(big.Int).SetUint64(x.limbs[i]))
	}
	return n
}

// modulo is the number from 0 to p - 1 that n is modulo p.
func modulo(n *big.Int) *big.Int {
	p := new(big.Int).Lsh(big.NewInt(1), 255)
	return new(big.Int).Mod(n, p.Sub(p, big.NewInt(19)))
}

// loose are numbers with limbs as great as they may be, at the edges, and drawn ones.
func loose() (l []Num) {
	most := []uint64{0, 1, limbMost - 19, limbMost - 18, limbMost, limbMost + 1, 1<<52 - 1}
	for _, first := range most {
		for _, middle := range most {
			for _, last := range most {
				l = append(l, Num{[5]uint64{first, middle, middle, middle, last}})
			}
		}
	}
	r := rand.New(rand.NewSource(1))
	for range 100 {
		var x Num
		for i := range x.limbs {
			x.limbs[i] = r.Uint64() >> 12
		}
		l = append(l, x)
	}
	return l
}

// stands tells where x is another number than n modulo p, or has a limb that is too great.
func stands(t *testing.T, what string, x Num, n *big.Int) {
	t.Helper()
	for i, limb := range x.limbs {
		if limb >= 1<<52 {
			t.Errorf("%s: limb %d is %x", what, i, limb)
		}
	}
	if modulo(value(x)).Cmp(modulo(n)) != 0 {
		t.Errorf("%s: %x, not %x", what, modulo(value(x)), modulo(n))
	}
}

// P6.2: with whatever limbs a number may stand in, what comes of it is right, and has such limbs again.
func TestLimbsOfSums(t *testing.T) {
	l := loose()
	for _, x := range l {
		for _, y := range l {
			n, m := value(x), value(y)
			stands(t, "sum", x.Add(y), new(big.Int).Add(n, m))
			stands(t, "difference", x.Sub(y), new(big.Int).Sub(n, m))
			stands(t, "product", x.Mul(y), new(big.Int).Mul(n, m))
		}
	}
}

// P6.1: in whatever limbs a number stands, its bytes are those of the one from 0 to p - 1.
func TestLimbsOfBytes(t *testing.T) {
	for _, x := range loose() {
		n := modulo(value(x))
		if least := x.least(); value(least).Cmp(n) != 0 {
			t.Errorf("%x: the least is %x", x.limbs, least.limbs)
		}
		if b := x.Bytes(); value(Of(b)).Cmp(n) != 0 || !x.Is(Of(b)) {
			t.Errorf("%x: %x", x.limbs, b)
		}
	}
}

// P6.3: numbers are changed for one another limb by limb; another yes than 0 and 1 makes no limb too great.
func TestLimbsOfSwap(t *testing.T) {
	l := loose()
	for i, x := range l {
		y := l[len(l)-1-i]
		for _, yes := range []uint64{2, 3, 1 << 52, math.MaxUint64} {
			a, b := x, y
			Swap(yes, &a, &b)
			stands(t, "a", a, value(a))
			stands(t, "b", b, value(b))
		}
		a, b := x, y
		if Swap(1, &a, &b); a != y || b != x {
			t.Errorf("%x and %x: %x and %x", x.limbs, y.limbs, a.limbs, b.limbs)
		}
	}
}

// P6.2: limbs of any 64 bits are carried right.
func TestCarried(t *testing.T) {
	r := rand.New(rand.NewSource(1))
	l := [][5]uint64{{}, {math.MaxUint64, math.MaxUint64, math.MaxUint64, math.MaxUint64, math.MaxUint64}}
	for range 1000 {
		l = append(l, [5]uint64{r.Uint64(), r.Uint64(), r.Uint64(), r.Uint64(), r.Uint64()})
	}
	for _, x := range l {
		stands(t, "carried", carried(x[0], x[1], x[2], x[3], x[4]), value(Num{x}))
	}
}

// P6.2: the bits of an exponent are gone over from the highest on down; the loop may be left at any place, and begins anew.
func TestDown(t *testing.T) {
	words := [4]uint64{0x0123456789abcdef, 1, 1 << 63, 0xf0f0f0f0f0f0f0f0}
	for _, stop := range []int{0, 1, 2, 63, 64, 65, 255, 256, 300} {
		i := 0
		for bit := range down(words) {
			if i == stop {
				break
			}
			at := 255 - i
			if want := words[at/64] >> (at % 64) & 1; bit != want {
				t.Errorf("bit %d: %d", at, bit)
			}
			i++
		}
		if i != min(stop, 256) {
			t.Errorf("left after %d: %d", stop, i)
		}
	}
}

// P6.2: powers, of exponents at the edges of words.
func TestPower(t *testing.T) {
	p := new(big.Int).Lsh(big.NewInt(1), 255)
	p.Sub(p, big.NewInt(19))
	for _, e := range [][4]uint64{{}, {1}, {2}, {19}, {0, 1}, {math.MaxUint64, 0, 0, 1 << 63}, {math.MaxUint64, math.MaxUint64, math.MaxUint64, math.MaxUint64}} {
		exponent := new(big.Int)
		for i := 3; i >= 0; i-- {
			exponent.Lsh(exponent, 64)
			exponent.Add(exponent, new(big.Int).SetUint64(e[i]))
		}
		for _, x := range loose()[:50] {
			stands(t, "power", x.power(e), new(big.Int).Exp(value(x), exponent, p))
		}
	}
}
