package head_test

import (
	"math/rand"
	"slices"
	"testing"

	"hailer/api"
)

// P12.1, P12.2, P12.3: random headers have the chapter's bytes, and are taken as they were, whatever stands behind.
func TestRandomPutTaken(t *testing.T) {
	r := rand.New(rand.NewSource(1))
	for range 20000 {
		h := some(r)
		b := spelt(h)
		has(t, h, b)
		behind := make([]byte, r.Intn(40))
		r.Read(behind)
		begins(t, append(slices.Clone(b), behind...), h, len(b))
	}
}

// P12.2, P12.3: random bytes, and a header's with some otherwise, are taken just where the chapter's words have it, and put again as they are.
func TestRandomBytes(t *testing.T) {
	r := rand.New(rand.NewSource(2))
	right, wrong := 0, 0
	for range 60000 {
		if as(t, other(r, spelt(some(r)))) {
			right++
		} else {
			wrong++
		}
	}
	if right < 6000 || wrong < 6000 {
		t.Errorf("%d right, %d wrong: ones of a kind are hardly tried", right, wrong)
	}
}

// P12.3: of two random headers that are unlike neither has bytes that begin with the other one's.
func TestRandomTwo(t *testing.T) {
	r := rand.New(rand.NewSource(3))
	for range 20000 {
		one, two := some(r), some(r)
		if r.Intn(2) == 0 {
			two = api.FrameHead{Kid: one.Kid, Ctr: one.Ctr ^ 1<<r.Intn(64)}
		}
		if one != two {
			apart(t, one, two)
			apart(t, two, one)
		}
	}
}
