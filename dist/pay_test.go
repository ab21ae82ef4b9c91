package dist_test

import (
	"bytes"
	"slices"
	"testing"

	"hailer/api"
	"hailer/dist"
)

// isPayload tells where there is no payload of the kind and the bytes, or another one than the document's.
func isPayload(t *testing.T, what string, kind uint8, body []byte) {
	t.Helper()
	want := append([]byte{kind}, body...)
	if b, e := dist.Pay(kind, body); e != api.OK || !bytes.Equal(b, want) {
		t.Errorf("%s, kind %d: paid as % x, error %d; not % x", what, kind, head(b), e, head(want))
	}
	if k, b, e := dist.Paid(want); e != api.OK || k != kind || !bytes.Equal(b, body) {
		t.Errorf("%s, kind %d: taken as %d, % x, error %d", what, kind, k, head(b), e)
	}
}

// noPayload tells where there is a payload of the kind and the bytes.
func noPayload(t *testing.T, what string, kind uint8, body []byte) {
	t.Helper()
	if b, e := dist.Pay(kind, body); e != api.ErrArg || b != nil {
		t.Errorf("%s, kind %d: paid as % x, error %d; not none, ErrArg", what, kind, head(b), e)
	}
	if k, b, e := dist.Paid(append([]byte{kind}, body...)); e != api.ErrBytes || k != 0 || b != nil {
		t.Errorf("%s, kind %d: taken as %d, % x, error %d; not zeros, ErrBytes", what, kind, k, head(b), e)
	}
}

// P10.3: a payload is of the kinds PlSignal, PlDist, PlRoster, and of no other, whatever its bytes are.
func TestPayloadKinds(t *testing.T) {
	for n := range 256 {
		for _, body := range [][]byte{nil, {}, {0}, {1}, {3, 2, 1}, counted(0, dist.MaxBox-1)} {
			if n == 1 || n == 2 || n == 3 {
				isPayload(t, number(len(body))+" bytes", uint8(n), body)
			} else {
				noPayload(t, number(len(body))+" bytes", uint8(n), body)
			}
		}
	}
}

// P10.3: it has none, or up to MaxBox - 1 bytes behind its kind, and no more; none at all are no payload.
func TestPayloadSizes(t *testing.T) {
	for _, kind := range []uint8{dist.PlSignal, dist.PlDist, dist.PlRoster} {
		for _, n := range []int{0, 1, 2, 255, 256, 257, dist.MaxBox - 2, dist.MaxBox - 1} {
			isPayload(t, number(n)+" bytes", kind, counted(byte(n), n))
		}
		for _, n := range []int{dist.MaxBox, dist.MaxBox + 1, 65535, 65536, 65536 + 1, 1 << 20} {
			noPayload(t, number(n)+" bytes", kind, counted(byte(n), n))
		}
	}
	for _, none := range [][]byte{nil, {}, counted(1, 5)[:0]} {
		if kind, body, e := dist.Paid(none); kind != 0 || body != nil || e != api.ErrBytes {
			t.Errorf("Paid of none: %d, % x, error %d", kind, body, e)
		}
	}
	for _, kind := range []uint8{0, 4} {
		noPayload(t, "too many bytes", kind, make([]byte, dist.MaxBox))
	}
}

// P10.3: a payload of as many bytes as most fits a box.
func TestPayloadInBox(t *testing.T) {
	x := plain()
	x.Box, _ = dist.Pay(dist.PlRoster, counted(1, dist.MaxBox-1))
	if len(x.Box) != dist.MaxBox {
		t.Errorf("a payload of %d bytes", len(x.Box))
	}
	ofEnvelope.mayBe(t, "with a payload of most bytes", x)
}

// P10.3, R3: what Pay and Paid give is in memory of its own, and what is handed in stays.
func TestPayloadMemory(t *testing.T) {
	body := []byte("body")
	one, _ := dist.Pay(dist.PlDist, body)
	two, _ := dist.Pay(dist.PlDist, body)
	clear(one)
	_ = append(one, "over"...)
	if string(body) != "body" || string(two) != "\x02body" {
		t.Errorf("with the first payload written over: %q, and of %q", two, body)
	}
	clear(body)
	if string(two) != "\x02body" {
		t.Errorf("with other bytes handed in then: %q", two)
	}

	whole := []byte("\x02body and more")
	b := whole[:5]
	_, first, _ := dist.Paid(b)
	_, second, _ := dist.Paid(b)
	clear(first)
	_ = append(first, "over and over"...)
	if string(whole) != "\x02body and more" || string(second) != "body" {
		t.Errorf("with the first body written over: %q, of %q", second, whole)
	}
	clear(whole)
	if string(second) != "body" {
		t.Errorf("with other bytes handed in then: %q", second)
	}

	room := counted(1, 2*dist.MaxBox)
	was := slices.Clone(room)
	for _, n := range []int{0, 1, 9, dist.MaxBox - 1, dist.MaxBox, dist.MaxBox + 1} {
		for kind := range uint8(5) {
			dist.Pay(kind, room[:n])
			dist.Paid(room[kind : int(kind)+n])
			if !bytes.Equal(room, was) {
				t.Fatalf("%d bytes, kind %d: what was handed in is otherwise", n, kind)
			}
		}
	}
	_, none, _ := dist.Paid(room[:1])
	_ = append(none, "over"...)
	if !bytes.Equal(room, was) {
		t.Error("a body of none, written behind: what was handed in is otherwise")
	}
}
