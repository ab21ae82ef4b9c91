package curve

import (
	"iter"

	"hailer/api"
	"hailer/field"
)

const (
	// scalarBits is how many bits a scalar's number has: the highest one of its bytes is 0.
	scalarBits = 255

	// quarter is of the curve's 486662, less 2: so much of it is left in the steps.
	quarter = 121665
)

// pair stands for the point whose u is x by z; of the one that is far away z is 0.
type pair struct{ x, z field.Num }

// times is the u of n times a point whose u that is.
func times(n api.Key, u field.Num) field.Num {
	one := field.Small(1)
	p, q := pair{x: one}, pair{u, one} // behind each step q is still p and the point besides
	for bit := range down(n) {
		// Changed for one another by a mask, not by a branch, which would hang on a secret's bits.
		swap(bit, &p, &q)
		p, q = step(p, q, u)
		swap(bit, &p, &q)
	}
	return p.x.Mul(p.z.Inverse()) // 0 if z is, whose inverse is 0 then
}

// down goes over the bits of a scalar's number, from the 255th on down to the first one.
func down(n api.Key) iter.Seq[uint64] {
	return func(yield func(uint64) bool) {
		for i := scalarBits - 1; i >= 0; i-- {
			if !yield(uint64(n[i/8] >> (i % 8) & 1)) {
				return
			}
		}
	}
}

// swap changes the two for one another, if the bit is 1.
func swap(bit uint64, p, q *pair) {
	field.Swap(bit, &p.x, &q.x)
	field.Swap(bit, &p.z, &q.z)
}

// step is twice p, and the sum of p and q, which are apart by the point whose u that is.
func step(p, q pair, u field.Num) (twice, sum pair) {
	a, b := p.x.Add(p.z), p.x.Sub(p.z)
	c, d := q.x.Add(q.z), q.x.Sub(q.z)
	aa, bb := square(a), square(b)
	e := aa.Sub(bb)
	da, cb := d.Mul(a), c.Mul(b)
	twice = pair{aa.Mul(bb), e.Mul(aa.Add(field.Small(quarter).Mul(e)))}
	sum = pair{square(da.Add(cb)), u.Mul(square(da.Sub(cb)))}
	return twice, sum
}

// square is the number by itself.
func square(x field.Num) field.Num { return x.Mul(x) }
