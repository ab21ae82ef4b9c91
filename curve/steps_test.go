package curve

import (
	"math/rand"
	"testing"

	"hailer/api"
	"hailer/field"
)

// drawnKey are 32 drawn bytes.
func drawnKey(r *rand.Rand) (k api.Key) {
	r.Read(k[:])
	return k
}

// P7.2, R6: a scalar's bits are gone over from the 255th on down to the first one; the loop may be left at any place, and begins anew.
func TestDown(t *testing.T) {
	n := drawnKey(rand.New(rand.NewSource(1)))
	bits := down(n)
	for _, stop := range []int{0, 1, 2, 7, 8, 9, 127, 254, 255, 300} {
		i := 0
		for bit := range bits {
			if i == stop {
				break
			}
			at := 254 - i
			if want := uint64(n[at/8] >> (at % 8) & 1); bit != want {
				t.Errorf("left after %d: bit %d: %d", stop, at, bit)
			}
			i++
		}
		if i != min(stop, 255) {
			t.Errorf("left after %d: %d", stop, i)
		}
	}
}

// P7.2: of numbers that no scalar has, low ones too: none times it is 0, once it is the point itself, and n times m times is n m times.
func TestTimes(t *testing.T) {
	r := rand.New(rand.NewSource(2))
	for range 20 {
		u := field.Of(drawnKey(r))
		if !times(api.Key{}, u).Is(field.Num{}) {
			t.Errorf("%x: none times", u.Bytes())
		}
		if !times(api.Key{1}, u).Is(u) {
			t.Errorf("%x: once", u.Bytes())
		}
		for _, x := range [][3]byte{{2, 2, 4}, {2, 3, 6}, {3, 5, 15}, {7, 11, 77}, {15, 17, 255}} {
			n, m, product := api.Key{x[0]}, api.Key{x[1]}, api.Key{x[2]}
			if !times(n, times(m, u)).Is(times(product, u)) || !times(m, times(n, u)).Is(times(product, u)) {
				t.Errorf("%x: %d times", u.Bytes(), x)
			}
		}
	}
}

// P7.2: from n times a point, and n + 1 times, a step comes to 2 n times and 2 n + 1 times, whatever two numbers each pair stands in.
func TestStep(t *testing.T) {
	r := rand.New(rand.NewSource(3))
	one := field.Small(1)
	by := func(p pair) field.Num { return p.x.Mul(p.z.Inverse()) }
	spread := func(p pair) pair {
		n := field.Of(drawnKey(r))
		return pair{p.x.Mul(n), p.z.Mul(n)}
	}
	for range 5 {
		u := field.Of(drawnKey(r))
		for n := range byte(60) {
			p, q := pair{times(api.Key{n}, u), one}, pair{times(api.Key{n + 1}, u), one}
			if n == 0 { // far away
				p = pair{x: one}
			}
			twice, sum := step(spread(p), spread(q), u)
			if !by(twice).Is(times(api.Key{2 * n}, u)) || !by(sum).Is(times(api.Key{2*n + 1}, u)) {
				t.Errorf("%x, %d times: %x, %x", u.Bytes(), n, by(twice).Bytes(), by(sum).Bytes())
			}
		}
	}
}

// P7.2: pairs are changed for one another just if the bit is 1.
func TestSwapOfPairs(t *testing.T) {
	r := rand.New(rand.NewSource(4))
	for range 20 {
		p, q := pair{field.Of(drawnKey(r)), field.Of(drawnKey(r))}, pair{field.Of(drawnKey(r)), field.Of(drawnKey(r))}
		wasP, wasQ := p, q
		if swap(0, &p, &q); p != wasP || q != wasQ {
			t.Errorf("changed with a 0: %v, %v", p, q)
		}
		if swap(1, &p, &q); p != wasQ || q != wasP {
			t.Errorf("not changed with a 1: %v, %v", p, q)
		}
	}
}
