package dist_test

import (
	"encoding/binary"
	"math/rand"
	"slices"

	"hailer/api"
)

// This file is a reading of the chapter's words that stands apart: what may be, which bytes things have, which bytes tell one.

// devMay tells whether a device may be.
func devMay(d api.Dev) bool { return d.Account <= 7 && d.Device <= 3 }

// place is a device's place among all that may be, by rising accounts and devices.
func place(d api.Dev) int { return 4*int(d.Account) + int(d.Device) }

// distMay tells whether it may be.
func distMay(x api.Dist) bool { return devMay(x.Sender) }

// rosterMay tells whether it may be.
func rosterMay(x api.Roster) bool {
	last := -1
	for _, d := range x.Members {
		if !devMay(d) || place(d) <= last {
			return false
		}
		last = place(d)
	}
	return len(x.Members) <= 32
}

// headerMay tells whether it may be.
func headerMay(api.Header) bool { return true }

// envelopeMay tells whether it may be.
func envelopeMay(x api.Envelope) bool {
	for _, wrong := range []bool{
		!devMay(x.From),
		!devMay(x.To),
		x.From.Account == x.To.Account && x.From.Device == x.To.Device,
		!x.HasSetup && x.Setup.Ident != api.Key{},
		!x.HasSetup && x.Setup.Ephemeral != api.Key{},
		!x.HasSetup && x.Setup.HasOnce,
		!(x.HasSetup && x.Setup.HasOnce) && x.Setup.OnceId != 0,
		len(x.Box) > 4096,
	} {
		if wrong {
			return false
		}
	}
	return true
}

// packetMay tells whether it may be.
func packetMay(x api.Packet) bool {
	return devMay(x.From) && devMay(x.To) && place(x.From) != place(x.To) && len(x.B) <= 70000
}

// devBytes are a device's.
func devBytes(d api.Dev) []byte { return []byte{d.Account, d.Device} }

// flagByte is a truth value's.
func flagByte(yes bool) byte {
	if yes {
		return 1
	}
	return 0
}

// distBytes are its bytes, whether it may be or not.
func distBytes(x api.Dist) []byte {
	b := binary.BigEndian.AppendUint64(slices.Clone(x.Group[:]), x.Epoch)
	b = binary.BigEndian.AppendUint64(append(b, devBytes(x.Sender)...), x.Kid)
	return append(b, x.Key[:]...)
}

// rosterBytes are its bytes, whether it may be or not.
func rosterBytes(x api.Roster) []byte {
	b := binary.BigEndian.AppendUint64(slices.Clone(x.Group[:]), x.Epoch)
	b = binary.BigEndian.AppendUint16(b, uint16(len(x.Members)))
	for _, d := range x.Members {
		b = append(b, devBytes(d)...)
	}
	return b
}

// headerBytes are its bytes.
func headerBytes(x api.Header) []byte {
	b := binary.BigEndian.AppendUint32(slices.Clone(x.Dh[:]), x.Prev)
	return binary.BigEndian.AppendUint32(b, x.N)
}

// envelopeBytes are its bytes, whether it may be or not.
func envelopeBytes(x api.Envelope) []byte {
	b := append(append(devBytes(x.From), devBytes(x.To)...), flagByte(x.HasSetup))
	if s := x.Setup; x.HasSetup {
		b = append(append(append(b, s.Ident[:]...), s.Ephemeral[:]...), flagByte(s.HasOnce))
		if s.HasOnce {
			b = binary.BigEndian.AppendUint32(b, s.OnceId)
		}
	}
	b = append(b, headerBytes(x.Header)...)
	return append(binary.BigEndian.AppendUint16(b, uint16(len(x.Box))), x.Box...)
}

// packetBytes are its bytes, whether it may be or not.
func packetBytes(x api.Packet) []byte {
	b := append(append(devBytes(x.From), devBytes(x.To)...), x.Group[:]...)
	return append(binary.BigEndian.AppendUint32(b, uint32(len(x.B))), x.B...)
}

// toldDev is the device that these two bytes tell.
func toldDev(b []byte) api.Dev { return api.Dev{Account: b[0], Device: b[1]} }

// distTold tells whether these are all bytes of one that may be.
func distTold(b []byte) bool { return len(b) == 66 && devMay(toldDev(b[24:])) }

// rosterTold tells whether these are all bytes of one that may be.
func rosterTold(b []byte) bool {
	if len(b) < 26 || len(b)%2 == 1 || int(b[24])<<8+int(b[25]) != (len(b)-26)/2 {
		return false
	}
	var l []api.Dev
	for d := range slices.Chunk(b[26:], 2) {
		l = append(l, toldDev(d))
	}
	return rosterMay(api.Roster{Members: l})
}

// headerTold tells whether these are all bytes of one.
func headerTold(b []byte) bool { return len(b) == 40 }

// twoTold tells whether the first four bytes are of two devices that may be, and are not one.
func twoTold(b []byte) bool {
	return len(b) >= 4 && devMay(toldDev(b)) && devMay(toldDev(b[2:])) && toldDev(b) != toldDev(b[2:])
}

// envelopeTold tells whether these are all bytes of one that may be.
func envelopeTold(b []byte) bool {
	if len(b) < 5+40+2 || !twoTold(b) || b[4] > 1 {
		return false
	}
	at := 5
	if b[4] == 1 {
		if len(b) < 5+65 || b[69] > 1 {
			return false
		}
		at = 70 + 4*int(b[69])
	}
	at += 40
	if len(b) < at+2 {
		return false
	}
	n := int(b[at])<<8 + int(b[at+1])
	return n <= 4096 && len(b) == at+2+n
}

// packetTold tells whether these are all bytes of one that may be.
func packetTold(b []byte) bool {
	return len(b) >= 24 && twoTold(b) && int64(binary.BigEndian.Uint32(b[20:])) == int64(len(b)-24) && len(b) <= 24+70000
}

// someDev is a device that may be.
func someDev(r *rand.Rand) api.Dev {
	return api.Dev{Account: uint8(r.Intn(8)), Device: uint8(r.Intn(4))}
}

// someTwo are two that may be, and are not one.
func someTwo(r *rand.Rand) (from, to api.Dev) {
	from, to = someDev(r), someDev(r)
	for from == to {
		to = someDev(r)
	}
	return from, to
}

// someBytes are up to 2^bits bytes, few of them more often than many.
func someBytes(r *rand.Rand, bits int) []byte {
	b := make([]byte, r.Intn(1<<r.Intn(bits+1)+1))
	r.Read(b)
	return b
}

// someKey is any key.
func someKey(r *rand.Rand) (k api.Key) {
	r.Read(k[:])
	return k
}

// someId is any id.
func someId(r *rand.Rand) (id api.CallId) {
	r.Read(id[:])
	return id
}

// someDist is one that may be.
func someDist(r *rand.Rand) api.Dist {
	return api.Dist{Group: someId(r), Epoch: r.Uint64() >> r.Intn(64), Sender: someDev(r), Kid: r.Uint64() >> r.Intn(64), Key: someKey(r)}
}

// someRoster is one that may be.
func someRoster(r *rand.Rand) api.Roster {
	x := api.Roster{Group: someId(r), Epoch: r.Uint64() >> r.Intn(64)}
	most := 1 + r.Intn(32)
	for n := range 32 {
		if r.Intn(32) < most {
			x.Members = append(x.Members, api.Dev{Account: uint8(n / 4), Device: uint8(n % 4)})
		}
	}
	return x
}

// someHeader is any header.
func someHeader(r *rand.Rand) api.Header {
	return api.Header{Dh: someKey(r), Prev: r.Uint32() >> r.Intn(32), N: r.Uint32() >> r.Intn(32)}
}

// someEnvelope is one that may be.
func someEnvelope(r *rand.Rand) (x api.Envelope) {
	x.From, x.To = someTwo(r)
	if r.Intn(2) == 0 {
		x.HasSetup = true
		x.Setup = api.Setup{Ident: someKey(r), Ephemeral: someKey(r)}
		if r.Intn(2) == 0 {
			x.Setup.HasOnce, x.Setup.OnceId = true, r.Uint32()>>r.Intn(32)
		}
	}
	x.Header = someHeader(r)
	x.Box = someBytes(r, 12)
	return x
}

// somePacket is one that may be.
func somePacket(r *rand.Rand) (x api.Packet) {
	x.From, x.To = someTwo(r)
	x.Group = someId(r)
	x.B = someBytes(r, 16)
	return x
}

// anyDev is a device, not seldom one that may not be.
func anyDev(r *rand.Rand) api.Dev {
	return api.Dev{Account: uint8(r.Intn(10)), Device: uint8(r.Intn(5))}
}

// distOtherwise is one with a thing otherwise.
func distOtherwise(r *rand.Rand, x api.Dist) api.Dist {
	x.Sender = anyDev(r)
	return x
}

// rosterOtherwise is one with a thing otherwise.
func rosterOtherwise(r *rand.Rand, x api.Roster) api.Roster {
	l := slices.Clone(x.Members)
	at := r.Intn(len(l) + 1)
	switch r.Intn(4) {
	case 0:
		l = slices.Insert(l, at, anyDev(r))
	case 1:
		if at < len(l) {
			l[at] = anyDev(r)
		}
	case 2:
		if at+1 < len(l) {
			l[at], l[at+1] = l[at+1], l[at]
		}
	}
	x.Members = l
	return x
}

// headerOtherwise is one with a thing otherwise.
func headerOtherwise(r *rand.Rand, x api.Header) api.Header {
	x.Prev, x.N = x.N, r.Uint32()
	return x
}

// envelopeOtherwise is one with a thing otherwise.
func envelopeOtherwise(r *rand.Rand, x api.Envelope) api.Envelope {
	switch r.Intn(9) {
	case 0:
		x.From = anyDev(r)
	case 1:
		x.To = anyDev(r)
	case 2:
		x.To = x.From
	case 3:
		x.HasSetup = !x.HasSetup
	case 4:
		x.Setup.Ident = api.Key{31: byte(r.Intn(2))}
	case 5:
		x.Setup.Ephemeral = api.Key{31: byte(r.Intn(2))}
	case 6:
		x.Setup.HasOnce = !x.Setup.HasOnce
	case 7:
		x.Setup.OnceId = uint32(r.Intn(2))
	case 8:
		x.Box = make([]byte, 4095+r.Intn(3))
	}
	return x
}

// packetOtherwise is one with a thing otherwise.
func packetOtherwise(r *rand.Rand, x api.Packet) api.Packet {
	switch r.Intn(4) {
	case 0:
		x.From = anyDev(r)
	case 1:
		x.To = anyDev(r)
	case 2:
		x.To = x.From
	case 3:
		x.B = make([]byte, 69999+r.Intn(3))
	}
	return x
}
