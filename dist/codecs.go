package dist

import (
	"hailer/api"
	"hailer/wire"
)

// Dists is the codec of senders' keys (P10.1).
func Dists() Codec[api.Dist] {
	return Codec[api.Dist]{
		may: func(x api.Dist) bool { return mayDevice(x.Sender) },
		put: func(o *wire.Out, x api.Dist) {
			o.Fixed(x.Group[:])
			o.U64(x.Epoch)
			putDevice(o, x.Sender)
			o.U64(x.Kid)
			o.Fixed(x.Key[:])
		},
		take: func(i *wire.In) (x api.Dist) {
			takeFixed(i, x.Group[:])
			x.Epoch = i.U64()
			x.Sender = takeDevice(i)
			x.Kid = i.U64()
			takeFixed(i, x.Key[:])
			return x
		},
	}
}

// Rosters is the codec of rosters (P10.1).
func Rosters() Codec[api.Roster] {
	return Codec[api.Roster]{
		may: func(x api.Roster) bool { return mayMembers(x.Members) },
		put: func(o *wire.Out, x api.Roster) {
			o.Fixed(x.Group[:])
			o.U64(x.Epoch)
			wire.PutList(o, api.MaxMembers, x.Members, putDevice)
		},
		take: func(i *wire.In) (x api.Roster) {
			takeFixed(i, x.Group[:])
			x.Epoch = i.U64()
			x.Members = wire.TakeList(i, api.MaxMembers, takeDevice)
			return x
		},
	}
}

// Headers is the codec of ratchet messages' headers (P10.1).
func Headers() Codec[api.Header] {
	return Codec[api.Header]{
		may:  func(api.Header) bool { return true },
		put:  putHeader,
		take: takeHeader,
	}
}

// Envelopes is the codec of envelopes (P10.1).
func Envelopes() Codec[api.Envelope] {
	return Codec[api.Envelope]{
		may: func(x api.Envelope) bool {
			return mayGo(x.From, x.To) && maySetup(x.HasSetup, x.Setup) && len(x.Box) <= MaxBox
		},
		put: func(o *wire.Out, x api.Envelope) {
			putDevice(o, x.From)
			putDevice(o, x.To)
			putSetup(o, x.HasSetup, x.Setup)
			putHeader(o, x.Header)
			o.Sized(MaxBox, x.Box)
		},
		take: func(i *wire.In) (x api.Envelope) {
			x.From = takeDevice(i)
			x.To = takeDevice(i)
			x.HasSetup, x.Setup = takeSetup(i)
			x.Header = takeHeader(i)
			x.Box = i.Sized(MaxBox)
			return x
		},
	}
}

// Packets is the codec of packets (P10.1).
func Packets() Codec[api.Packet] {
	return Codec[api.Packet]{
		may: func(x api.Packet) bool { return mayGo(x.From, x.To) && len(x.B) <= MaxPacket },
		put: func(o *wire.Out, x api.Packet) {
			putDevice(o, x.From)
			putDevice(o, x.To)
			o.Fixed(x.Group[:])
			o.U32(uint32(len(x.B))) // not sized: two bytes can't tell MaxPacket
			o.Fixed(x.B)
		},
		take: func(i *wire.In) (x api.Packet) {
			x.From = takeDevice(i)
			x.To = takeDevice(i)
			takeFixed(i, x.Group[:])
			x.B = i.Fixed(int(i.U32()))
			return x
		},
	}
}
