package rec_test

import (
	"bytes"
	"math/rand"
	"slices"
	"testing"

	"hailer/rec"
)

// P11.1, P11.3: random records that may be may be, have the document's bytes, and are taken as they were.
func TestRandomPutTaken(t *testing.T) {
	r := rand.New(rand.NewSource(1))
	for range 10000 {
		x := some(r)
		mayBe(t, "random", x, spelt(x))
	}
}

// P11.1: a random record may be just where the document's words have it, and is put, and its bytes taken, just then.
func TestRandomMay(t *testing.T) {
	r := rand.New(rand.NewSource(2))
	yes, no := 0, 0
	for range 40000 {
		x := some(r)
		for range r.Intn(4) {
			x = otherwise(r, x)
		}
		mayIf(t, may(x), "random", x)
		if may(x) {
			yes++
		} else {
			no++
		}
	}
	if yes < 5000 || no < 5000 {
		t.Errorf("%d may be, %d may not: ones of a kind are hardly tried", yes, no)
	}
}

// P11.1, P11.3: random bytes, and a record's with some otherwise, are taken just where the document's words have it, and put again as they are.
func TestRandomBytes(t *testing.T) {
	r := rand.New(rand.NewSource(3))
	right, wrong := 0, 0
	for range 80000 {
		b := other(r, spelt(some(r)))
		x, is := told(b)
		if !is {
			wrong++
			noBytes(t, "other bytes", b)
			continue
		}
		right++
		mayBe(t, "other bytes", x, b)
	}
	if right < 8000 || wrong < 8000 {
		t.Errorf("%d right, %d wrong: ones of a kind are hardly tried", right, wrong)
	}
}

// P11.2, P11.3: random records' bytes, and such with some otherwise, are gone over as the document's words have it; what is gone over is put again as these bytes.
func TestRandomAll(t *testing.T) {
	r := rand.New(rand.NewSource(4))
	whole, cut := 0, 0
	for range 8000 {
		l := someRecords(r, 12)
		goesOver(t, "random", joined(l), l...)
		b := append(joined(l), spelt(some(r))...)
		for range r.Intn(3) {
			if len(b) > 0 {
				b = other(r, b)
			}
		}
		want, got := entries(b), gone(rec.All(b))
		if !slices.Equal(got, want) {
			t.Fatalf("% x: it goes over %v, not %v", head(b), got, want)
		}
		if 43*len(want) == len(b) {
			whole++
		} else {
			cut++
		}
		for _, x := range got {
			if again, e := rec.Put(x.r); e != 0 || !bytes.Equal(again, b[x.at:x.at+43]) {
				t.Fatalf("what is at %d is put again as % x, error %d", x.at, again, e)
			}
		}
	}
	if whole < 1000 || cut < 1000 {
		t.Errorf("%d gone over wholly, %d not: ones of a kind are hardly tried", whole, cut)
	}
}
