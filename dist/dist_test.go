package dist_test

import (
	"bytes"
	"encoding/binary"
	"math"
	"reflect"
	"slices"
	"strconv"
	"strings"
	"testing"

	"hailer/api"
	"hailer/dist"
)

// counted are n bytes that count on from the first.
func counted(first byte, n int) []byte {
	b := make([]byte, n)
	for i := range b {
		b[i] = first + byte(i)
	}
	return b
}

// An id and keys of which each byte is another one, and the same as texts.
var (
	id     = api.CallId(counted(0x10, 16))
	key    = api.Key(counted(0x80, 32))
	ident  = api.Key(counted(0x40, 32))
	ids    = string(counted(0x10, 16))
	keys   = string(counted(0x80, 32))
	idents = string(counted(0x40, 32))
)

// ones are a number of bits that are all 1, as bytes.
var ones = api.Key(bytes.Repeat([]byte{0xff}, 32))

// dev is a device.
func dev(account, device uint8) api.Dev { return api.Dev{Account: account, Device: device} }

// all are all devices that may be, by rising accounts and devices.
func all() (l []api.Dev) {
	for a := range uint8(8) {
		for d := range uint8(4) {
			l = append(l, dev(a, d))
		}
	}
	return l
}

// of is a roster of these members.
func of(l ...api.Dev) api.Roster { return api.Roster{Group: id, Epoch: 0x0102030405060708, Members: l} }

// fullDist has each thing unlike the others.
func fullDist() api.Dist {
	return api.Dist{Group: id, Epoch: 0x0102030405060708, Sender: dev(7, 3), Kid: 0xa1a2a3a4a5a6a7a8, Key: key}
}

// fullHeader has each thing unlike the others.
func fullHeader() api.Header { return api.Header{Dh: key, Prev: 0xa1b2c3d4, N: 0x01020304} }

// plain is an envelope without a setup; each thing is unlike the others.
func plain() api.Envelope {
	return api.Envelope{From: dev(7, 3), To: dev(6, 2), Header: fullHeader(), Box: []byte("box")}
}

// first is an envelope with a setup.
func first() api.Envelope {
	x := plain()
	x.HasSetup, x.Setup = true, api.Setup{Ident: ident, Ephemeral: key}
	return x
}

// once is an envelope with a setup that has a once-key.
func once() api.Envelope {
	x := first()
	x.Setup.HasOnce, x.Setup.OnceId = true, 0xe1e2e3e4
	return x
}

// envelopes are one of each form.
func envelopes() map[string]api.Envelope {
	return map[string]api.Envelope{"no setup": plain(), "a setup": first(), "a setup with a once-key": once()}
}

// fullPacket has each thing unlike the others.
func fullPacket() api.Packet {
	return api.Packet{From: dev(7, 3), To: dev(6, 2), Group: id, B: []byte("frame")}
}

// number is a number's name.
func number(n int) string { return strconv.Itoa(n) }

// head are the first bytes, of many.
func head(b []byte) []byte { return b[:min(len(b), 64)] }

// is tells whether both are one thing; lists of none are one, whether nil or not.
func is[T any](a, b T) bool { return reflect.DeepEqual(nils(a), nils(b)) }

// nils is the thing with nil for lists of none.
func nils(x any) any {
	switch x := x.(type) {
	case api.Roster:
		x.Members = append([]api.Dev(nil), x.Members...)
		return x
	case api.Envelope:
		x.Box = append([]byte(nil), x.Box...)
		return x
	case api.Packet:
		x.B = append([]byte(nil), x.B...)
		return x
	}
	return x
}

// mayBe tells where the thing may not be, has not the document's bytes, or is not taken as it was.
func (w words[T]) mayBe(t *testing.T, what string, x T) {
	t.Helper()
	want := w.spelt(x)
	if !w.c.May(x) {
		t.Errorf("%s, %s: it may not be", w.name, what)
	}
	b, e := w.c.Put(x)
	if e != api.OK || !bytes.Equal(b, want) {
		t.Errorf("%s, %s: put as % x, error %d; not % x", w.name, what, head(b), e, head(want))
	}
	if got, e := w.c.Take(want); e != api.OK || !is(got, x) {
		t.Errorf("%s, %s: taken as %v, error %d", w.name, what, got, e)
	}
}

// mayNot tells where the thing may be, or is put, or taken of what would be its bytes, were they not another's.
func (w words[T]) mayNot(t *testing.T, what string, x T) {
	t.Helper()
	if w.c.May(x) {
		t.Errorf("%s, %s: it may be", w.name, what)
	}
	if b, e := w.c.Put(x); e != api.ErrArg || b != nil {
		t.Errorf("%s, %s: put as % x, error %d; not none, ErrArg", w.name, what, head(b), e)
	}
	if b := w.spelt(x); !w.told(b) {
		w.noBytes(t, what, b)
	}
}

// mayIf tells where the thing may be, though it may not, or the other way round.
func (w words[T]) mayIf(t *testing.T, yes bool, what string, x T) {
	t.Helper()
	if yes {
		w.mayBe(t, what, x)
	} else {
		w.mayNot(t, what, x)
	}
}

// noBytes tells where these are a thing's.
func (w words[T]) noBytes(t *testing.T, what string, b []byte) {
	t.Helper()
	var zero T
	if x, e := w.c.Take(b); e != api.ErrBytes || !reflect.DeepEqual(x, zero) {
		t.Errorf("%s, %s: % x taken as %v, error %d; not zero, ErrBytes", w.name, what, head(b), x, e)
	}
}

// P10.1, P10.2: the chapter's examples.
func TestExamples(t *testing.T) {
	b, e := dist.Headers().Put(api.Header{})
	if e != api.OK || !bytes.Equal(b, make([]byte, 40)) {
		t.Errorf("a header of zeros: % x, error %d", b, e)
	}
	if b, e := dist.Envelopes().Put(api.Envelope{}); e != api.ErrArg || b != nil {
		t.Errorf("an envelope from a device to itself: % x, error %d", b, e)
	}
	if b, e := dist.Rosters().Put(api.Roster{Members: []api.Dev{dev(0, 1), dev(0, 0)}}); e != api.ErrArg || b != nil {
		t.Errorf("a roster 0/1, 0/0: % x, error %d", b, e)
	}
	noPayload(t, "of kind 4", 4, nil)
	if kind, body, e := dist.Paid(nil); kind != 0 || body != nil || e != api.ErrBytes {
		t.Errorf("Paid of none: %d, % x, error %d", kind, body, e)
	}
	if dist.MaxBox != 4096 || dist.MaxPacket != 70000 || dist.PlSignal != 1 || dist.PlDist != 2 || dist.PlRoster != 3 {
		t.Error("the bounds and kinds are not the document's")
	}
	if api.MaxAccounts != 8 || api.MaxDevices != 4 || api.MaxMembers != 32 {
		t.Error("the limits are not the document's")
	}
}

// P10.1, P10.2: nothing may be by a zero codec, and nothing is put or taken: ErrNil, ahead of all else.
func TestZeroCodecs(t *testing.T) {
	zeroCodec(t, ofDist, fullDist(), api.Dist{}, api.Dist{Sender: dev(8, 4)})
	zeroCodec(t, ofRoster, of(all()...), api.Roster{}, of(dev(0, 1), dev(0, 0)))
	zeroCodec(t, ofHeader, fullHeader(), api.Header{})
	zeroCodec(t, ofEnvelope, plain(), first(), once(), api.Envelope{})
	zeroCodec(t, ofPacket, fullPacket(), api.Packet{})
	var c dist.Codec[int] // of a type that has no codec
	_, put := c.Put(1)
	x, taken := c.Take([]byte{1})
	if c.May(1) || put != api.ErrNil || taken != api.ErrNil || x != 0 {
		t.Error("a zero codec of numbers: it does something")
	}
}

func zeroCodec[T any](t *testing.T, w words[T], l ...T) {
	t.Helper()
	var c dist.Codec[T]
	var zero T
	for _, x := range l {
		if c.May(x) {
			t.Errorf("a zero codec, %s: %v may be", w.name, x)
		}
		if b, e := c.Put(x); b != nil || e != api.ErrNil {
			t.Errorf("a zero codec, %s: put as % x, error %d", w.name, head(b), e)
		}
		for _, b := range [][]byte{nil, {}, {0}, w.spelt(x), make([]byte, 40), make([]byte, 66)} {
			if x, e := c.Take(b); e != api.ErrNil || !reflect.DeepEqual(x, zero) {
				t.Errorf("a zero codec, %s: % x taken as %v, error %d", w.name, head(b), x, e)
			}
		}
	}
}

// P10.1, P10.2: each thing's fields stand where the document lays them.
func TestBytes(t *testing.T) {
	zeros := func(n int) string { return strings.Repeat("\x00", n) }
	const epoch, header = "\x01\x02\x03\x04\x05\x06\x07\x08", "\xa1\xb2\xc3\xd4\x01\x02\x03\x04"
	long := fullPacket()
	long.B = counted(0, 70000)
	boxed := plain()
	boxed.Box = counted(0, 300)

	laid(t, ofDist, fullDist(), ids+epoch+"\x07\x03\xa1\xa2\xa3\xa4\xa5\xa6\xa7\xa8"+keys)
	laid(t, ofDist, api.Dist{}, zeros(66))
	laid(t, ofDist, api.Dist{Sender: dev(5, 0), Kid: 1}, zeros(24)+"\x05"+zeros(8)+"\x01"+zeros(32))
	laid(t, ofRoster, of(dev(0, 3), dev(2, 1), dev(7, 0)), ids+epoch+"\x00\x03\x00\x03\x02\x01\x07\x00")
	laid(t, ofRoster, of(), ids+epoch+"\x00\x00")
	laid(t, ofRoster, api.Roster{}, zeros(26))
	laid(t, ofHeader, fullHeader(), keys+header)
	laid(t, ofHeader, api.Header{N: 1}, zeros(39)+"\x01")
	laid(t, ofHeader, api.Header{Prev: 1}, zeros(35)+"\x01"+zeros(4))
	laid(t, ofEnvelope, plain(), "\x07\x03\x06\x02\x00"+keys+header+"\x00\x03box")
	laid(t, ofEnvelope, first(), "\x07\x03\x06\x02\x01"+idents+keys+"\x00"+keys+header+"\x00\x03box")
	laid(t, ofEnvelope, once(), "\x07\x03\x06\x02\x01"+idents+keys+"\x01\xe1\xe2\xe3\xe4"+keys+header+"\x00\x03box")
	laid(t, ofEnvelope, boxed, "\x07\x03\x06\x02\x00"+keys+header+"\x01\x2c"+string(boxed.Box))
	laid(t, ofEnvelope, api.Envelope{To: dev(0, 1)}, zeros(3)+"\x01"+zeros(43))
	laid(t, ofEnvelope, api.Envelope{From: dev(1, 0), HasSetup: true}, "\x01"+zeros(3)+"\x01"+zeros(107))
	laid(t, ofEnvelope, api.Envelope{From: dev(1, 0), HasSetup: true, Setup: api.Setup{HasOnce: true}}, "\x01"+zeros(3)+"\x01"+zeros(64)+"\x01"+zeros(46))
	laid(t, ofPacket, fullPacket(), "\x07\x03\x06\x02"+ids+"\x00\x00\x00\x05frame")
	laid(t, ofPacket, long, "\x07\x03\x06\x02"+ids+"\x00\x01\x11\x70"+string(long.B))
	laid(t, ofPacket, api.Packet{From: dev(0, 1)}, "\x00\x01"+zeros(22))
}

func laid[T any](t *testing.T, w words[T], x T, want string) {
	t.Helper()
	if b, e := w.c.Put(x); e != api.OK || string(b) != want {
		t.Errorf("%s: put as % x, error %d; not % x", w.name, head(b), e, head([]byte(want)))
	}
	if got, e := w.c.Take([]byte(want)); e != api.OK || !is(got, x) {
		t.Errorf("%s: taken as %v, error %d", w.name, got, e)
	}
}

// P10.1, P10.2: an account of MaxAccounts less one, a device of MaxDevices less one may be, for each device that a thing names; one more may not, nor any that is greater.
func TestDevices(t *testing.T) {
	for n := range 256 {
		deviceMay(t, n < 8, "account "+number(n), dev(uint8(n), 0))
		deviceMay(t, n < 4, "device "+number(n), dev(0, uint8(n)))
		deviceMay(t, n < 8, "account "+number(n)+", device 3", dev(uint8(n), 3))
		deviceMay(t, n < 4, "account 7, device "+number(n), dev(7, uint8(n)))
	}
	deviceMay(t, false, "the account, the device behind the last", dev(8, 4))
}

// deviceMay tells where a thing with the device may be, or may not.
func deviceMay(t *testing.T, yes bool, what string, d api.Dev) {
	t.Helper()
	x := fullDist()
	x.Sender = d
	ofDist.mayIf(t, yes, "sender of "+what, x)
	ofRoster.mayIf(t, yes, "a member of "+what, of(d))
	members := []api.Dev{dev(1, 1), dev(4, 2)}
	at, _ := slices.BinarySearchFunc(members, d, func(a, b api.Dev) int { return (int(a.Account)-int(b.Account))*256 + int(a.Device) - int(b.Device) })
	ofRoster.mayIf(t, yes, "one of some members of "+what, of(slices.Insert(members, at, d)...))
	for form, x := range envelopes() {
		x.From, x.To = d, dev(4, 2)
		ofEnvelope.mayIf(t, yes, form+", from "+what, x)
		x.From, x.To = x.To, x.From
		ofEnvelope.mayIf(t, yes, form+", to "+what, x)
	}
	p := fullPacket()
	p.From, p.To = d, dev(4, 2)
	ofPacket.mayIf(t, yes, "from "+what, p)
	p.From, p.To = p.To, p.From
	ofPacket.mayIf(t, yes, "to "+what, p)
}

// P10.1, P10.2: envelopes and packets go from any device to any other one, and none to itself.
func TestToItself(t *testing.T) {
	for _, from := range all() {
		for _, to := range all() {
			what := "two devices"
			if from == to {
				what = "a device, to itself"
			}
			for form, x := range envelopes() {
				x.From, x.To = from, to
				ofEnvelope.mayIf(t, from != to, what+", "+form, x)
			}
			x := fullPacket()
			x.From, x.To = from, to
			ofPacket.mayIf(t, from != to, what, x)
		}
	}
}

// P10.1, P10.2: a dist and a header may be whatever else they have.
func TestDistsAndHeaders(t *testing.T) {
	for bit := range 256 {
		d, h := fullDist(), fullHeader()
		d.Key, h.Dh = api.Key{}, api.Key{}
		d.Key[bit/8], h.Dh[bit/8] = 1<<(bit%8), 1<<(bit%8)
		d.Group = api.CallId{}
		d.Group[bit/8%16] = 1 << (bit % 8)
		d.Epoch, d.Kid = 1<<(bit%64), 1<<(63-bit%64)
		h.Prev, h.N = 1<<(bit%32), 1<<(31-bit%32)
		ofDist.mayBe(t, "of single bits", d)
		ofHeader.mayBe(t, "of single bits", h)
		r := of(all()...)
		r.Group, r.Epoch = d.Group, d.Epoch
		ofRoster.mayBe(t, "of single bits", r)
		p := fullPacket()
		p.Group = d.Group
		ofPacket.mayBe(t, "of single bits", p)
		for form, e := range envelopes() {
			e.Header = h
			ofEnvelope.mayBe(t, form+", a header of single bits", e)
		}
	}
	ofDist.mayBe(t, "of ones", api.Dist{Group: api.CallId(ones[:16]), Epoch: math.MaxUint64, Sender: dev(7, 3), Kid: math.MaxUint64, Key: ones})
	ofHeader.mayBe(t, "of ones", api.Header{Dh: ones, Prev: math.MaxUint32, N: math.MaxUint32})
	ofHeader.mayBe(t, "of zeros", api.Header{})
	ofRoster.mayBe(t, "of ones", api.Roster{Group: api.CallId(ones[:16]), Epoch: math.MaxUint64})
}

// P10.1, P10.2: a roster has none, one, or up to MaxMembers members, and no more.
func TestRosterSizes(t *testing.T) {
	ofRoster.mayBe(t, "nil members", of())
	ofRoster.mayBe(t, "no members", of([]api.Dev{}...))
	ofRoster.mayBe(t, "no members, with room", of(all()[:0]...))
	for n := range 33 {
		ofRoster.mayBe(t, "the first members, "+number(n), of(all()[:n]...))
		ofRoster.mayBe(t, "the last members, "+number(n), of(all()[32-n:]...))
	}
	for _, d := range append(all(), dev(8, 0), dev(7, 4), dev(255, 255)) {
		ofRoster.mayNot(t, "one more behind", of(append(all(), d)...))
		ofRoster.mayNot(t, "one more ahead", of(append([]api.Dev{d}, all()...)...))
	}
	var rising []api.Dev // more of them, but of accounts and devices that may not be
	for a := range uint8(255) {
		rising = append(rising, dev(a, 0), dev(a, 1))
	}
	for _, n := range []int{33, 34, 64, 256, 257, 510} {
		ofRoster.mayNot(t, number(n)+" members", of(rising[:n]...))
	}
	for _, n := range []int{33, 65535, 65536, 65537, 65568, 1 << 20} { // of these two bytes may tell fewer
		ofRoster.mayNot(t, number(n)+" members, all one", of(make([]api.Dev, n)...))
	}
	for _, n := range []int{0, 1, 3, 32} { // another number of them than is told
		for _, told := range []int{0, 1, n - 1, n + 1, 31, 32, 33, n + 256, 65535} {
			if told != n && told >= 0 {
				b := rosterBytes(of(all()[:n]...))
				b[24], b[25] = byte(told>>8), byte(told)
				ofRoster.noBytes(t, number(n)+" members, told to be "+number(told), b)
			}
		}
	}
}

// P10.1, P10.2: two members that stand by one another rise by account, and then by device; they are not one, nor do they fall.
func TestRosterOrder(t *testing.T) {
	for _, a := range all() {
		for _, b := range all() {
			rises := a.Account < b.Account || a.Account == b.Account && a.Device < b.Device
			ofRoster.mayIf(t, rises, "two members", of(a, b))
		}
	}
	for at := range 31 {
		l := all()
		l[at], l[at+1] = l[at+1], l[at]
		ofRoster.mayNot(t, "two that fall", of(l...))
		l = all()
		l[at+1] = l[at]
		ofRoster.mayNot(t, "two that are one", of(l...))
	}
	for name, l := range map[string][]api.Dev{
		"one that comes twice, not at once": {dev(1, 1), dev(2, 1), dev(1, 1)},
		"that fall by account":              {dev(0, 0), dev(3, 0), dev(2, 3)},
		"that fall by device":               {dev(0, 0), dev(3, 1), dev(3, 0)},
		"that rise by device alone":         {dev(1, 0), dev(0, 1)},
	} {
		ofRoster.mayNot(t, "members "+name, of(l...))
	}
	ofRoster.mayBe(t, "members that fall by device, and rise by account", of(dev(1, 3), dev(2, 2), dev(3, 1), dev(4, 0)))
}

// P10.1, P10.2: without a setup nothing of it may be there; with one all may, but for a once-key's number without a once-key.
func TestSetups(t *testing.T) {
	for bit := range 256 {
		var k api.Key
		k[bit/8] = 1 << (bit % 8)
		oneSetup(t, "Ident", true, api.Setup{Ident: k})
		oneSetup(t, "Ephemeral", true, api.Setup{Ephemeral: k})
		oneSetup(t, "both keys, HasOnce", true, api.Setup{Ident: k, Ephemeral: key, HasOnce: true})
	}
	for bit := range 32 {
		oneSetup(t, "OnceId", false, api.Setup{OnceId: 1 << bit})
		oneSetup(t, "keys, OnceId", false, api.Setup{Ident: key, Ephemeral: key, OnceId: 1 << bit})
		oneSetup(t, "HasOnce, OnceId", true, api.Setup{HasOnce: true, OnceId: 1 << bit})
	}
	oneSetup(t, "HasOnce", true, api.Setup{HasOnce: true})
	oneSetup(t, "all of ones", true, api.Setup{Ident: ones, Ephemeral: ones, HasOnce: true, OnceId: math.MaxUint32})
	oneSetup(t, "OnceId of ones", false, api.Setup{Ident: ones, Ephemeral: ones, OnceId: math.MaxUint32})
	zero := first()
	zero.Setup = api.Setup{}
	ofEnvelope.mayBe(t, "a setup of zeros", zero)
	for form, x := range envelopes() {
		ofEnvelope.mayBe(t, form, x)
	}
}

// oneSetup tells where an envelope may have the setup though it tells that it has none, or may not have it.
func oneSetup(t *testing.T, what string, may bool, s api.Setup) {
	t.Helper()
	x := plain()
	x.Setup = s
	ofEnvelope.mayNot(t, what+", without HasSetup", x)
	x.HasSetup = true
	ofEnvelope.mayIf(t, may, what+", with HasSetup", x)
}

// P10.1, P10.2: a box has none, or up to MaxBox bytes, and no more.
func TestBoxes(t *testing.T) {
	for form, x := range envelopes() {
		x.Box = nil
		ofEnvelope.mayBe(t, form+", a nil box", x)
		for _, n := range []int{0, 1, 2, 255, 256, 257, dist.MaxBox - 1, dist.MaxBox} {
			x.Box = counted(byte(n), n)
			ofEnvelope.mayBe(t, form+", a box of "+number(n), x)
		}
		for _, n := range []int{dist.MaxBox + 1, dist.MaxBox + 2, 2 * dist.MaxBox, 65535, 65536, 65536 + dist.MaxBox, 1 << 20} {
			x.Box = make([]byte, n)
			ofEnvelope.mayNot(t, form+", a box of "+number(n), x)
		}
		for _, n := range []int{0, 1, 5, dist.MaxBox} { // another number of bytes than is told
			for _, told := range []int{0, 1, n - 1, n + 1, n + 256, dist.MaxBox, dist.MaxBox + 1, 65535} {
				if told != n && told >= 0 {
					x.Box = counted(1, n)
					b := envelopeBytes(x)
					at := len(b) - n - 2
					b[at], b[at+1] = byte(told>>8), byte(told)
					ofEnvelope.noBytes(t, form+", a box of "+number(n)+", told to be "+number(told), b)
				}
			}
		}
	}
}

// P10.1, P10.2: a packet has none, or up to MaxPacket bytes, and no more.
func TestPackets(t *testing.T) {
	x := fullPacket()
	x.B = nil
	ofPacket.mayBe(t, "nil bytes", x)
	for _, n := range []int{0, 1, 2, 255, 256, 257, 4096, 4097, 65535, 65536, 65537, dist.MaxPacket - 1, dist.MaxPacket} {
		x.B = counted(byte(n), n)
		ofPacket.mayBe(t, number(n)+" bytes", x)
	}
	for _, n := range []int{dist.MaxPacket + 1, dist.MaxPacket + 2, 2 * dist.MaxPacket, 1<<17 + 5, 1 << 24} {
		x.B = make([]byte, n)
		ofPacket.mayNot(t, number(n)+" bytes", x)
	}
	for _, n := range []int{0, 1, 5, dist.MaxPacket} { // another number of bytes than is told
		for _, told := range []uint32{0, 1, uint32(n) - 1, uint32(n) + 1, uint32(n) + 1<<16, uint32(n) + 1<<24, 1<<31 - 1, 1 << 31, uint32(n) + 1<<31, math.MaxUint32} {
			if told != uint32(n) {
				x.B = counted(1, n)
				b := packetBytes(x)
				binary.BigEndian.PutUint32(b[20:], told)
				ofPacket.noBytes(t, number(n)+" bytes, told to be "+number(int(told)), b)
			}
		}
	}
}

// P10.2, P10.4: cut short at each place, and with more behind, they are no thing's bytes.
func TestCutAndMore(t *testing.T) {
	box, packet := once(), fullPacket()
	box.Box, packet.B = counted(3, dist.MaxBox), counted(3, 3000)
	cutAndMore(t, ofDist, fullDist(), api.Dist{})
	cutAndMore(t, ofRoster, of(all()...), of(dev(1, 2)), of(), api.Roster{})
	cutAndMore(t, ofHeader, fullHeader(), api.Header{})
	cutAndMore(t, ofEnvelope, plain(), first(), once(), box, api.Envelope{To: dev(0, 1)}, api.Envelope{To: dev(0, 1), HasSetup: true})
	cutAndMore(t, ofPacket, fullPacket(), packet, api.Packet{To: dev(0, 1)})
	packet.B = counted(3, dist.MaxPacket)
	b := packetBytes(packet)
	for n := len(b) - 1; n >= 0; n -= 997 {
		ofPacket.noBytes(t, "of most bytes, cut short", b[:n])
	}
	ofPacket.noBytes(t, "of most bytes, and one more", append(b, 0))
}

func cutAndMore[T any](t *testing.T, w words[T], l ...T) {
	t.Helper()
	w.noBytes(t, "nil", nil)
	w.noBytes(t, "none", []byte{})
	for _, x := range l {
		b := w.spelt(x)
		for n := range b {
			w.noBytes(t, "cut short", b[:n])
		}
		for next := range 256 {
			w.noBytes(t, "and one more", append(slices.Clone(b), byte(next)))
		}
		w.noBytes(t, "twice", append(slices.Clone(b), b...))
		w.noBytes(t, "and many more", append(slices.Clone(b), make([]byte, 1<<18)...))
	}
}

// P10.2: truth values are 1 and 0, and no others.
func TestFlags(t *testing.T) {
	const hasSetup, hasOnce = 4, 69
	for n := 2; n < 256; n++ {
		for form, x := range envelopes() {
			b := envelopeBytes(x)
			b[hasSetup] = byte(n)
			ofEnvelope.noBytes(t, form+", HasSetup of "+number(n), b)
			if x.HasSetup {
				b = envelopeBytes(x)
				b[hasOnce] = byte(n)
				ofEnvelope.noBytes(t, form+", HasOnce of "+number(n), b)
			}
		}
	}
	b := envelopeBytes(plain())
	b[hasSetup] = 1
	ofEnvelope.noBytes(t, "no setup, told to be there", b)
	for _, x := range []api.Envelope{first(), once()} {
		b := envelopeBytes(x)
		b[hasSetup] = 0
		ofEnvelope.noBytes(t, "a setup, told not to be there", b)
		b = envelopeBytes(x)
		b[hasOnce] ^= 1
		ofEnvelope.noBytes(t, "a once-key, told the other way round", b)
	}
}
