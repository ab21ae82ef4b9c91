package dist_test

import (
	"bytes"
	"math/rand"
	"slices"
	"testing"

	"hailer/api"
	"hailer/dist"
)

// words are what the document's words tell of a codec's things, and things to try.
type words[T any] struct {
	name      string
	c         dist.Codec[T]
	may       func(x T) bool
	spelt     func(x T) []byte
	told      func(b []byte) bool
	some      func(r *rand.Rand) T
	otherwise func(r *rand.Rand, x T) T
	places    []int // bytes that tell of things that may not be, if they are otherwise
}

var (
	ofDist     = words[api.Dist]{"dist", dist.Dists(), distMay, distBytes, distTold, someDist, distOtherwise, []int{24, 25}}
	ofRoster   = words[api.Roster]{"roster", dist.Rosters(), rosterMay, rosterBytes, rosterTold, someRoster, rosterOtherwise, []int{24, 25, 26, 27, 28, 29}}
	ofHeader   = words[api.Header]{"header", dist.Headers(), headerMay, headerBytes, headerTold, someHeader, headerOtherwise, []int{0, 32, 39}}
	ofEnvelope = words[api.Envelope]{"envelope", dist.Envelopes(), envelopeMay, envelopeBytes, envelopeTold, someEnvelope, envelopeOtherwise, []int{0, 1, 2, 3, 4, 45, 46, 69, 110, 111, 114, 115}}
	ofPacket   = words[api.Packet]{"packet", dist.Packets(), packetMay, packetBytes, packetTold, somePacket, packetOtherwise, []int{0, 1, 2, 3, 20, 21, 22, 23}}
)

// P10.1 to P10.4: random things that may be may be, have the document's bytes, and are taken as they were.
func TestRandomPutTaken(t *testing.T) {
	putTaken(t, ofDist, 4000)
	putTaken(t, ofRoster, 4000)
	putTaken(t, ofHeader, 4000)
	putTaken(t, ofEnvelope, 4000)
	putTaken(t, ofPacket, 1000)
}

func putTaken[T any](t *testing.T, w words[T], n int) {
	r := rand.New(rand.NewSource(1))
	for range n {
		w.mayBe(t, "random", w.some(r))
	}
}

// P10.1, P10.2: a random thing may be just where the document's words have it, and is put, and its bytes taken, just then.
func TestRandomMay(t *testing.T) {
	may(t, ofDist, 8000, 1000)
	may(t, ofRoster, 8000, 1000)
	may(t, ofHeader, 1000, 0)
	may(t, ofEnvelope, 8000, 1000)
	may(t, ofPacket, 4000, 500)
}

func may[T any](t *testing.T, w words[T], n, least int) {
	r := rand.New(rand.NewSource(2))
	yes, no := 0, 0
	for range n {
		x := w.some(r)
		for range r.Intn(3) {
			x = w.otherwise(r, x)
		}
		if w.may(x) {
			yes++
			w.mayBe(t, "random", x)
		} else {
			no++
			w.mayNot(t, "random", x)
		}
	}
	if yes < least || no < least {
		t.Errorf("%s: %d may be, %d may not: ones of a kind are hardly tried", w.name, yes, no)
	}
}

// P10.2, P10.4: random bytes, and a thing's with some otherwise, are taken just where the document's words have it, and put again as they are.
func TestRandomBytes(t *testing.T) {
	taken(t, ofDist, 20000)
	taken(t, ofRoster, 20000)
	taken(t, ofHeader, 20000)
	taken(t, ofEnvelope, 20000)
	taken(t, ofPacket, 4000)
}

func taken[T any](t *testing.T, w words[T], n int) {
	r := rand.New(rand.NewSource(3))
	right, wrong := 0, 0
	for range n {
		b := other(r, w.spelt(w.some(r)), w.places)
		if !w.told(b) {
			wrong++
			w.noBytes(t, "other bytes", b)
			continue
		}
		right++
		x, e := w.c.Take(b)
		if e != api.OK || !w.c.May(x) || !w.may(x) {
			t.Fatalf("%s: % x taken as %v, error %d", w.name, head(b), x, e)
		}
		if again, e := w.c.Put(x); e != api.OK || !bytes.Equal(again, b) || !bytes.Equal(w.spelt(x), b) {
			t.Fatalf("%s: % x put again as % x, error %d", w.name, head(b), head(again), e)
		}
	}
	if right < n/10 || wrong < n/10 {
		t.Errorf("%s: %d right, %d wrong: ones of a kind are hardly tried", w.name, right, wrong)
	}
}

// other are the bytes, with some of them otherwise, gone, or more; or as many that are any.
func other(r *rand.Rand, was []byte, places []int) []byte {
	b := slices.Clone(was)
	place := min(places[r.Intn(len(places))], len(b)-1)
	switch r.Intn(9) {
	case 0:
		r.Read(b)
	case 1:
		return b[:r.Intn(len(b)+1)]
	case 2:
		return append(b, make([]byte, 1+r.Intn(3))...)
	case 3:
		b[r.Intn(len(b))] = byte(r.Intn(256))
	case 4, 5:
		b[place] = byte(r.Intn(10))
	case 6:
		b[place] ^= 1 << r.Intn(8)
	}
	return b
}

// P10.3: random payloads are just where the document's words have it.
func TestRandomPayloads(t *testing.T) {
	r := rand.New(rand.NewSource(4))
	right, wrong := 0, 0
	for range 20000 {
		kind, b := uint8(r.Intn(5)), someBytes(r, 13)
		if 1 <= kind && kind <= 3 && len(b) <= 4095 {
			right++
			isPayload(t, "random", kind, b)
		} else {
			wrong++
			noPayload(t, "random", kind, b)
		}
	}
	if right < 2000 || wrong < 2000 {
		t.Errorf("%d right, %d wrong: ones of a kind are hardly tried", right, wrong)
	}
}
