package dist_test

import (
	"bytes"
	"reflect"
	"slices"
	"testing"

	"hailer/api"
)

// P10.1, P10.2, R3: what Put and Take give is in memory of its own.
func TestOwnMemory(t *testing.T) {
	putOwn(t, ofDist, fullDist(), func(*api.Dist) {})
	putOwn(t, ofRoster, of(all()...), func(x *api.Roster) { spoil(x.Members) })
	putOwn(t, ofHeader, fullHeader(), func(*api.Header) {})
	for _, x := range envelopes() {
		putOwn(t, ofEnvelope, x, func(x *api.Envelope) { spoil(x.Box) })
	}
	putOwn(t, ofPacket, fullPacket(), func(x *api.Packet) { spoil(x.B) })
}

// spoil writes over the list, and behind it, where there is room.
func spoil[E any](l []E) {
	clear(l)
	clear(l[:cap(l)])
}

// putOwn puts and takes the thing twice, and writes over all that was handed in, and over what was given first; lists writes over a thing's lists.
func putOwn[T any](t *testing.T, w words[T], x T, lists func(x *T)) {
	t.Helper()
	want := w.spelt(x)
	one, _ := w.c.Put(x)
	two, _ := w.c.Put(x)
	lists(&x)
	spoil(one)
	if !bytes.Equal(two, want) {
		t.Errorf("%s: with what was handed in, and what was given first, written over: % x", w.name, head(two))
	}

	b := slices.Clone(want)
	first, _ := w.c.Take(b)
	second, _ := w.c.Take(b)
	lists(&first)
	if !bytes.Equal(b, want) {
		t.Errorf("%s: with what was taken written over the bytes are % x", w.name, head(b))
	}
	spoil(b)
	if !bytes.Equal(w.spelt(second), want) {
		t.Errorf("%s: with what was handed in, and what was taken first, written over: %v", w.name, second)
	}
}

// R3: what is handed in is not changed, nor what stands behind it.
func TestHandedInStays(t *testing.T) {
	short := of(all()[:9]...)
	falls := of(dev(0, 1), dev(0, 0), dev(0, 1))
	box, packet := once(), fullPacket()
	box.Box, packet.B = counted(1, 9000)[:9], counted(1, 90000)[:9]
	long, most := first(), fullPacket()
	long.Box, most.B = counted(1, 4097), counted(1, 70001)
	stays(t, ofDist, nothingBehind, fullDist(), api.Dist{Sender: dev(8, 0)})
	stays(t, ofRoster, func(x api.Roster) any { return slices.Clone(x.Members[:cap(x.Members)]) }, short, falls, of(all()...))
	stays(t, ofHeader, nothingBehind, fullHeader())
	stays(t, ofEnvelope, func(x api.Envelope) any { return slices.Clone(x.Box[:cap(x.Box)]) }, box, long, plain(), api.Envelope{})
	stays(t, ofPacket, func(x api.Packet) any { return slices.Clone(x.B[:cap(x.B)]) }, packet, most, api.Packet{})
}

// nothingBehind is of things without lists.
func nothingBehind[T any](T) any { return nil }

// stays puts and takes the things; behind is a copy of a thing's list, with what stands behind it.
func stays[T any](t *testing.T, w words[T], behind func(x T) any, l ...T) {
	t.Helper()
	for _, x := range l {
		was := behind(x)
		w.c.May(x)
		w.c.Put(x)
		if !reflect.DeepEqual(behind(x), was) {
			t.Errorf("%s: what was handed in is otherwise", w.name)
		}
		b := append(w.spelt(x), counted(7, 100)...)
		bytesWere := slices.Clone(b)
		for _, n := range []int{0, 1, 5, 24, 26, 40, len(b) - 101, len(b) - 100, len(b) - 99, len(b)} {
			w.c.Take(b[:min(n, len(b))])
		}
		if !bytes.Equal(b, bytesWere) {
			t.Errorf("%s: bytes that were handed in are otherwise", w.name)
		}
	}
}

// R5: what was put or taken ahead, or failed, is nothing to what comes then; and codecs, copies of them, are all alike.
func TestApart(t *testing.T) {
	for range 3 {
		apart(t, ofDist, fullDist(), api.Dist{Sender: dev(8, 0)})
		apart(t, ofRoster, of(all()...), of(dev(0, 1), dev(0, 0)))
		apart(t, ofHeader, fullHeader(), api.Header{})
		apart(t, ofEnvelope, once(), api.Envelope{})
		apart(t, ofPacket, fullPacket(), api.Packet{})
	}
}

func apart[T any](t *testing.T, w words[T], x, bad T) {
	t.Helper()
	w.c.Put(bad)
	w.c.Take(w.spelt(x)[:3])
	w.mayBe(t, "behind what failed", x)
	copied := w
	copied.c = w.c
	copied.mayBe(t, "by a copy", x)
}
