package curve_test

import (
	"crypto/ecdh"
	"encoding/hex"
	"math/big"
	"math/rand"
	"slices"
	"sync"
	"testing"

	"hailer/api"
	"hailer/curve"
)

// p is 2^255 - 19.
func p() *big.Int { return number(1, 255, -19) }

// number is n times 2^k, and d besides.
func number(n int64, k uint, d int64) *big.Int {
	x := new(big.Int).Lsh(big.NewInt(n), k)
	return x.Add(x, big.NewInt(d))
}

// modulo is the number from 0 to p - 1 that n is modulo p.
func modulo(n *big.Int) *big.Int { return new(big.Int).Mod(n, p()) }

// key are the number's 32 bytes, the lowest first.
func key(n *big.Int) (k api.Key) {
	n.FillBytes(k[:])
	slices.Reverse(k[:])
	return k
}

// counted is the number of all bits of the bytes, the lowest first.
func counted(k api.Key) *big.Int {
	slices.Reverse(k[:])
	return new(big.Int).SetBytes(k[:])
}

// turned are the bytes with that bit turned.
func turned(k api.Key, bit int) api.Key {
	k[bit/8] ^= 1 << (bit % 8)
	return k
}

// drawn are n times 32 bytes, the same ones at each run for each seed.
func drawn(seed, n int) []api.Key {
	r := rand.New(rand.NewSource(int64(seed)))
	l := make([]api.Key, n)
	for i := range l {
		r.Read(l[i][:])
	}
	return l
}

// unhex are the bytes written so, to the base 16.
func unhex(t *testing.T, s string) api.Key {
	t.Helper()
	b, err := hex.DecodeString(s)
	if err != nil {
		t.Fatal(err)
	}
	return api.Key(b)
}

// decimal is the number written so, to the base 10.
func decimal(s string) *big.Int {
	n, ok := new(big.Int).SetString(s, 10)
	if !ok {
		panic(s)
	}
	return n
}

// scalarNumber is the scalar's number, bit by bit as the chapter's words have it.
func scalarNumber(scalar api.Key) *big.Int {
	n := counted(scalar)
	for _, bit := range []int{0, 1, 2, 255} {
		n.SetBit(n, bit, 0)
	}
	return n.SetBit(n, 254, 1)
}

// pointNumber is the point's u modulo p.
func pointNumber(point api.Key) *big.Int {
	n := counted(point)
	return modulo(n.SetBit(n, 255, 0))
}

// The sum, the difference, the product, the quotient (0 by 0), modulo p.
func add(x, y *big.Int) *big.Int { return modulo(new(big.Int).Add(x, y)) }
func sub(x, y *big.Int) *big.Int { return modulo(new(big.Int).Sub(x, y)) }
func mul(x, y *big.Int) *big.Int { return modulo(new(big.Int).Mul(x, y)) }
func by(x, y *big.Int) *big.Int {
	if modulo(y).Sign() == 0 {
		return new(big.Int)
	}
	return mul(x, new(big.Int).ModInverse(y, p()))
}

// reckoned is what the scalar and the point come to by the document's steps, with integers modulo p.
func reckoned(scalar, point api.Key) api.Key {
	n, u := scalarNumber(scalar), pointNumber(point)
	x2, z2, x3, z3 := big.NewInt(1), big.NewInt(0), u, big.NewInt(1)
	for i := 254; i >= 0; i-- {
		if n.Bit(i) == 1 {
			x2, z2, x3, z3 = x3, z3, x2, z2
		}
		a, b, c, d := add(x2, z2), sub(x2, z2), add(x3, z3), sub(x3, z3)
		aa, bb := mul(a, a), mul(b, b)
		e, da, cb := sub(aa, bb), mul(d, a), mul(c, b)
		sum, less := add(da, cb), sub(da, cb)
		x3, z3 = mul(sum, sum), mul(u, mul(less, less))
		x2, z2 = mul(aa, bb), mul(e, add(aa, mul(big.NewInt(121665), e)))
		if n.Bit(i) == 1 {
			x2, z2, x3, z3 = x3, z3, x2, z2
		}
	}
	return key(by(x2, z2))
}

// shares tells where the scalar and the point come to another thing than want, or, if that is zero, not to ErrZero.
func shares(t *testing.T, scalar, point, want api.Key) {
	t.Helper()
	e := api.OK
	if want == (api.Key{}) {
		e = api.ErrZero
	}
	if got, gotE := curve.Shared(scalar, point); got != want || gotE != e {
		t.Errorf("scalar %x, point %x: %x, error %d; not %x, %d", scalar, point, got, gotE, want, e)
	}
}

// scalars are those at the edges (no bits, all bits, each end's bits), and drawn ones.
func scalars(seed, n int) []api.Key {
	l := []api.Key{
		{}, {1}, {8}, {31: 128}, {31: 64}, {31: 127},
		key(number(1, 256, -1)), key(number(1, 255, -1)), key(number(1, 254, -1)), key(number(1, 255, -8)), key(p()),
	}
	return append(l, drawn(seed, n)...)
}

// nothings are the points that come to 0, each with the bits that tell it, and the highest one besides: 0, 1, p - 1, p, p + 1, and those of the points of order eight.
func nothings() (l []api.Key) {
	for _, n := range []*big.Int{
		big.NewInt(0), big.NewInt(1), number(1, 255, -20), p(), number(1, 255, -18),
		decimal("325606250916557431795983626356110631294008115727848805560023387167927233504"),
		decimal("39382357235489614581723060781553021112529911719440698176882885853963445705823"),
	} {
		l = append(l, key(n), turned(key(n), 255))
	}
	return l
}

// edges are points near 0, p and 2^255 that come to no 0, and the same with the highest bit of the last byte set.
func edges() (l []api.Key) {
	for _, n := range []*big.Int{
		big.NewInt(2), big.NewInt(9), number(1, 255, -21), number(1, 255, -17), number(1, 255, -10), number(1, 255, -1),
		big.NewInt(3), big.NewInt(4), big.NewInt(18), big.NewInt(19), number(1, 255, -22), number(1, 255, -2), number(1, 254, 0), number(1, 254, -10),
	} {
		l = append(l, key(n), turned(key(n), 255))
	}
	return l
}

// P7.2: the chapter's examples.
func TestExamples(t *testing.T) {
	scalar := unhex(t, "a546e36bf0527c9d3b16154b82465edd62144c0ac1fc5a18506a2244ba449ac4")
	point := unhex(t, "e6db6867583030db3594c1a424b15f7c726624ec26b3353b10a903a6d0ab1c4c")
	shares(t, scalar, point, unhex(t, "c3da55379de9c6908e94ea4df28d084f32eccf03491c71f754b4075577a28552"))
	shares(t, scalar, api.Key{}, api.Key{})
	shares(t, scalar, api.Key{1}, api.Key{})
}

// P7.2, P7.3: RFC 7748's other examples: a point with its highest bit set, and two sides with a secret of both.
func TestPublished(t *testing.T) {
	shares(t,
		unhex(t, "4b66e9d4d1b4673c5ad22691957d6af5c11b6421e0ea01d42ca4169e7918ba0d"),
		unhex(t, "e5210f12786811d3f4b7959d0538ae2c31dbe7106fc03c3efc4cd549c715a493"),
		unhex(t, "95cbde9476e8907d7aade45cb4b873f88b595a68799fa152e6f8f7647aac7957"))
	a := unhex(t, "77076d0a7318a57d3c16c17251b26645df4c2f87ebc0992ab177fba51db92c2a")
	b := unhex(t, "5dab087e624a8a4b79e17f8b83800ee66f3bb1292618b6fd1c2f8b27ff88e0eb")
	publicA := unhex(t, "8520f0098930a754748b7ddcb43ef75a0dbf3a0d26381af4eba4a98eaa9b4e6a")
	publicB := unhex(t, "de9edb7d7b7dc1b4d35b61c2ece435373f8343c85b78674dadfc7e146f882b4f")
	secret := unhex(t, "4a5d9d5ba4ce2de1728e3bf480350f25e07e21c947d19e3376f09b3c1e161742")
	if curve.Public(a) != publicA || curve.Public(b) != publicB {
		t.Errorf("public: %x, %x", curve.Public(a), curve.Public(b))
	}
	shares(t, a, publicB, secret)
	shares(t, b, publicA, secret)
}

// P7.1: of no bits, of all bits, of each single bit, of each single one that is not, and of random bytes: it is the scalar's number.
func TestClamp(t *testing.T) {
	none, all := api.Key{}, key(number(1, 256, -1))
	l := append(drawn(1, 2000), none, all)
	for bit := range 256 {
		l = append(l, turned(none, bit), turned(all, bit))
	}
	for _, scalar := range l {
		got := curve.Clamp(scalar)
		if got != key(scalarNumber(scalar)) {
			t.Errorf("%x: %x", scalar, got)
		}
		if curve.Clamp(got) != got {
			t.Errorf("%x: another one of its number, %x", scalar, got)
		}
	}
	if got, want := curve.Clamp(none), key(number(1, 254, 0)); got != want {
		t.Errorf("of no bits: %x", got)
	}
	if got, want := curve.Clamp(all), key(number(1, 255, -8)); got != want {
		t.Errorf("of all bits: %x", got)
	}
}

// P7.1: the lowest three bits and the highest one are 0, the next highest one is 1, each other one is as it was.
func TestClampBits(t *testing.T) {
	for _, scalar := range scalars(2, 500) {
		was, is := counted(scalar), counted(curve.Clamp(scalar))
		for bit := range 256 {
			want := was.Bit(bit)
			switch bit {
			case 0, 1, 2, 255:
				want = 0
			case 254:
				want = 1
			}
			if is.Bit(bit) != want {
				t.Errorf("%x: bit %d is %d", scalar, bit, is.Bit(bit))
			}
		}
	}
}

// P7.2: random scalars and points come to what the document's steps do; points of the curve, and of its twist.
func TestSharedBySteps(t *testing.T) {
	onCurve := 0
	points := drawn(4, 400)
	for i, scalar := range drawn(3, 400) {
		shares(t, scalar, points[i], reckoned(scalar, points[i]))
		if big.Jacobi(cube(pointNumber(points[i])), p()) == 1 {
			onCurve++
		}
	}
	if onCurve < 100 || onCurve > 300 {
		t.Errorf("%d of 400 points are on the curve: the others, or these, are hardly tried", onCurve)
	}
}

// P7.2: points at the edges, with the highest bit and without it, and scalars at the edges come to what the document's steps do.
func TestSharedAtEdges(t *testing.T) {
	for _, scalar := range scalars(5, 4) {
		for _, point := range append(edges(), drawn(6, 2)...) {
			want := reckoned(scalar, point)
			if want == (api.Key{}) {
				t.Errorf("scalar %x, point %x: 0 by the steps, so not for this test", scalar, point)
			}
			shares(t, scalar, point, want)
		}
	}
}

// P7.2: bytes of p and above are the point that they are modulo p.
func TestSharedAboveP(t *testing.T) {
	for _, scalar := range scalars(7, 4) {
		for d := range int64(19) {
			low, e := curve.Shared(scalar, key(big.NewInt(d)))
			high, highE := curve.Shared(scalar, key(number(1, 255, d-19)))
			if low != high || e != highE {
				t.Errorf("scalar %x: of %d %x, %d; of p and %d %x, %d", scalar, d, low, e, d, high, highE)
			}
			if zero := d < 2; (e == api.ErrZero) != zero || (low == api.Key{}) != zero {
				t.Errorf("scalar %x, point %d: %x, %d", scalar, d, low, e)
			}
		}
	}
}

// cube is u^3 + 486662 u^2 + u.
func cube(u *big.Int) *big.Int {
	return mul(u, add(mul(u, add(u, big.NewInt(486662))), big.NewInt(1)))
}

// affine is a point with both its numbers, of the curve w v^2 = u^3 + 486662 u^2 + u; nil is the one that is far away.
type affine struct{ u, v *big.Int }

// plus is the sum of two points of that curve, by the line through both.
func (a *affine) plus(b *affine, w *big.Int) *affine {
	if a == nil {
		return b
	}
	if b == nil {
		return a
	}
	var slope *big.Int
	switch {
	case a.u.Cmp(b.u) != 0:
		slope = by(sub(b.v, a.v), sub(b.u, a.u))
	case a.v.Cmp(b.v) != 0 || a.v.Sign() == 0: // one is the other's negative
		return nil
	default:
		rise := add(mul(big.NewInt(3), mul(a.u, a.u)), add(mul(big.NewInt(2*486662), a.u), big.NewInt(1)))
		slope = by(rise, mul(big.NewInt(2), mul(w, a.v)))
	}
	u := sub(sub(mul(w, mul(slope, slope)), big.NewInt(486662)), add(a.u, b.u))
	return &affine{u, sub(mul(slope, sub(a.u, u)), a.v)}
}

// summed is the point u, n times, by sums of points on the curve where v is 1 (which is the curve, or its twist, but for v's scale); 0 for the one that is far away.
func summed(n, u *big.Int) *big.Int {
	var sum *affine
	point, w := &affine{u, big.NewInt(1)}, cube(u)
	for i := n.BitLen() - 1; i >= 0; i-- {
		sum = sum.plus(sum, w)
		if n.Bit(i) == 1 {
			sum = sum.plus(point, w)
		}
	}
	if sum == nil {
		return new(big.Int)
	}
	return sum.u
}

// P7.2: it is the point, that many times: the same as by sums of points.
func TestSharedIsSums(t *testing.T) {
	for _, scalar := range scalars(8, 3) {
		for _, point := range append(drawn(9, 6), api.Key{9}, api.Key{2}, key(number(1, 255, -21))) {
			shares(t, scalar, point, key(summed(scalarNumber(scalar), pointNumber(point))))
		}
	}
}

// P7.2: the library has the same, of random scalars and points, and of those that come to 0.
func TestSharedAsLibrary(t *testing.T) {
	points := append(nothings(), append(edges(), drawn(11, 500)...)...)
	for i, scalar := range drawn(10, len(points)) {
		private, err := ecdh.X25519().NewPrivateKey(scalar[:])
		if err != nil {
			t.Fatal(err)
		}
		public, err := ecdh.X25519().NewPublicKey(points[i][:])
		if err != nil {
			t.Fatal(err)
		}
		var want api.Key
		if b, err := private.ECDH(public); err == nil { // it has an error where the secret is 0
			want = api.Key(b)
		}
		shares(t, scalar, points[i], want)
		if got := curve.Public(scalar); got != api.Key(private.PublicKey().Bytes()) {
			t.Errorf("public of %x: %x", scalar, got)
		}
	}
}

// P7.2: ErrZero and zero for the points that come to 0, with the highest bit and without it, whatever the scalar.
func TestZero(t *testing.T) {
	for _, scalar := range scalars(12, 100) {
		for _, point := range nothings() {
			shares(t, scalar, point, api.Key{})
		}
	}
	for _, scalar := range scalars(13, 2) {
		for _, point := range nothings() {
			if got := reckoned(scalar, point); got != (api.Key{}) {
				t.Errorf("scalar %x, point %x: %x by the steps", scalar, point, got)
			}
		}
	}
}

// P7.2: points beside those that come to 0 do not, nor do such as have one bit otherwise.
func TestNotZero(t *testing.T) {
	for _, scalar := range scalars(14, 2) {
		for i, point := range nothings() {
			for bit := i; bit < 255; bit += 23 {
				other := turned(point, bit)
				if slices.Contains(nothings(), other) {
					continue
				}
				if got, e := curve.Shared(scalar, other); got == (api.Key{}) || e != api.OK {
					t.Errorf("scalar %x, point %x: %x, %d", scalar, other, got, e)
				}
			}
		}
	}
}

// P7.2: Public is Shared of the point 9.
func TestPublic(t *testing.T) {
	for _, scalar := range scalars(15, 200) {
		got := curve.Public(scalar)
		shares(t, scalar, api.Key{9}, got)
		if got == (api.Key{}) {
			t.Errorf("of %x: 0", scalar)
		}
	}
	for _, scalar := range scalars(16, 20) {
		if got, want := curve.Public(scalar), reckoned(scalar, api.Key{9}); got != want {
			t.Errorf("of %x: %x, not %x", scalar, got, want)
		}
	}
}

// P7.3: two sides with each other's Public share one secret, which is not 0; others share another one.
func TestOneSecret(t *testing.T) {
	l := scalars(17, 300)
	secrets := map[api.Key]bool{}
	for i, a := range l {
		b := l[(i+40)%len(l)]
		one, e := curve.Shared(a, curve.Public(b))
		other, otherE := curve.Shared(b, curve.Public(a))
		if one != other || one == (api.Key{}) || e != api.OK || otherE != api.OK {
			t.Errorf("%x and %x: %x, %d, and %x, %d", a, b, one, e, other, otherE)
		}
		secrets[one] = true
	}
	if len(secrets) < 300 {
		t.Errorf("%d secrets alone", len(secrets))
	}
}

// P7.3: it hangs not on which of two scalars comes first, of whatever point they begin.
func TestEitherFirst(t *testing.T) {
	l := drawn(18, 50)
	for i, point := range append(edges(), drawn(19, 50)...) {
		a, b := l[i%50], l[(i+7)%50]
		one, e := curve.Shared(a, point)
		other, otherE := curve.Shared(b, point)
		if e != api.OK || otherE != api.OK {
			t.Fatalf("point %x: %d, %d", point, e, otherE)
		}
		want, _ := curve.Shared(b, one)
		shares(t, a, other, want)
	}
}

// P7.2: a thousand steps, in which the scalar and the point are what was shared last, and the scalar of the step before (RFC 7748).
func TestThousandSteps(t *testing.T) {
	scalar, point := api.Key{9}, api.Key{9}
	want := map[int]string{
		1:    "422c8e7a6227d7bca1350b3e2bb7279f7897b87bb6854b783c60e80311ae3079",
		1000: "684cf59ba83309552800ef566f2f4d3c1c3887c49360e3875f2eb94d99532c51",
	}
	for step := 1; step <= 1000; step++ {
		next, e := curve.Shared(scalar, point)
		if e != api.OK {
			t.Fatalf("step %d: error %d", step, e)
		}
		scalar, point = next, scalar
		if w, ok := want[step]; ok && scalar != unhex(t, w) {
			t.Errorf("step %d: %x, not %s", step, scalar, w)
		}
	}
}

// P7.3: of a scalar the lowest three and the highest two bits make no difference, of a point the highest one.
func TestBitsThatCountForNothing(t *testing.T) {
	points := append(edges(), drawn(21, 20)...)
	for i, scalar := range scalars(20, 20) {
		point := points[i%len(points)]
		want, e := curve.Shared(scalar, point)
		if e != api.OK {
			t.Fatalf("scalar %x, point %x: error %d", scalar, point, e)
		}
		shares(t, scalar, turned(point, 255), want)
		shares(t, curve.Clamp(scalar), point, want)
		public := curve.Public(scalar)
		for bits := range 32 { // all ways in which the five may stand
			other := scalar
			for at, bit := range []int{0, 1, 2, 254, 255} {
				if bits>>at&1 == 1 {
					other = turned(other, bit)
				}
			}
			shares(t, other, point, want)
			shares(t, other, turned(point, 255), want)
			if got := curve.Public(other); got != public {
				t.Errorf("public of %x: %x, of %x: %x", scalar, public, other, got)
			}
		}
	}
}

// P7.1, P7.2: each other bit of a scalar, and of a point, makes a difference.
func TestBitsThatCount(t *testing.T) {
	points := append(drawn(23, 2), api.Key{18}) // 9 with a bit turned may be 1, which comes to 0
	for i, scalar := range drawn(22, 3) {
		point := points[i]
		was, _ := curve.Shared(scalar, point)
		for bit := 3; bit < 254; bit++ {
			if got, e := curve.Shared(turned(scalar, bit), point); got == was || e != api.OK {
				t.Errorf("scalar %x, point %x: the same with the scalar's bit %d turned; %d", scalar, point, bit, e)
			}
		}
		for bit := range 255 {
			if got, e := curve.Shared(scalar, turned(point, bit)); got == was || e != api.OK {
				t.Errorf("scalar %x, point %x: the same with the point's bit %d turned; %d", scalar, point, bit, e)
			}
		}
	}
}

// R3: what is handed in is left as it was, and what is answered is not kept.
func TestLeftAsItWas(t *testing.T) {
	points := append(edges(), append(nothings(), drawn(25, 20)...)...)
	for i, scalar := range scalars(24, 40) {
		point := points[i%len(points)]
		wasScalar, wasPoint := scalar, point
		clamped, public := curve.Clamp(scalar), curve.Public(scalar)
		secret, e := curve.Shared(scalar, point)
		if scalar != wasScalar || point != wasPoint {
			t.Errorf("scalar %x, point %x: written into", wasScalar, wasPoint)
		}
		wasClamped, wasPublic, wasSecret := clamped, public, secret
		clear(clamped[:])
		clear(public[:])
		clear(secret[:])
		again, againE := curve.Shared(scalar, point)
		if curve.Clamp(scalar) != wasClamped || curve.Public(scalar) != wasPublic || again != wasSecret || e != againE {
			t.Errorf("scalar %x, point %x: otherwise when asked again", scalar, point)
		}
	}
}

// R5: what was asked ahead, and meanwhile by other goroutines, makes no difference.
func TestNothingElseCounts(t *testing.T) {
	l := scalars(26, 10)
	points := append(nothings(), drawn(27, 10)...)
	type answer struct {
		clamped, public, secret api.Key
		e                       api.Errno
	}
	asked := func(i int) answer {
		secret, e := curve.Shared(l[i], points[i])
		return answer{curve.Clamp(l[i]), curve.Public(l[i]), secret, e}
	}
	want := make([]answer, len(l))
	for i := range l {
		want[i] = asked(i)
	}
	var group sync.WaitGroup
	for seed := range 8 {
		group.Go(func() {
			for range 5 {
				for _, i := range rand.New(rand.NewSource(int64(seed))).Perm(len(l)) {
					if got := asked(i); got != want[i] {
						t.Errorf("scalar %x, point %x: %v, not %v", l[i], points[i], got, want[i])
					}
				}
			}
		})
	}
	group.Wait()
}
