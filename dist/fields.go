package dist

import (
	"cmp"

	"hailer/api"
	"hailer/wire"
)

// mayDevice tells whether the device may be.
func mayDevice(d api.Dev) bool { return d.Account < api.MaxAccounts && d.Device < api.MaxDevices }

// mayGo tells whether something may go from the one device to the other.
func mayGo(from, to api.Dev) bool { return mayDevice(from) && mayDevice(to) && from != to }

// mayMembers tells whether these may be a roster's: by rising order no device is there twice.
func mayMembers(l []api.Dev) bool {
	if len(l) > api.MaxMembers {
		return false
	}
	for at, d := range l {
		if !mayDevice(d) || at > 0 && compare(l[at-1], d) >= 0 {
			return false
		}
	}
	return true
}

// compare is below 0, if a stands ahead of b in a roster.
func compare(a, b api.Dev) int {
	return cmp.Or(cmp.Compare(a.Account, b.Account), cmp.Compare(a.Device, b.Device))
}

// maySetup tells whether an envelope may have this setup, or have none. What is not put must be zero, or else it would not be taken as it was.
func maySetup(has bool, s api.Setup) bool {
	if !has {
		return s == api.Setup{}
	}
	return s.HasOnce || s.OnceId == 0
}

func putDevice(o *wire.Out, d api.Dev) { o.U8(d.Account, d.Device) }

func takeDevice(i *wire.In) (d api.Dev) {
	d.Account = i.U8()
	d.Device = i.U8()
	return d
}

func putSetup(o *wire.Out, has bool, s api.Setup) {
	o.Flag(has)
	if !has {
		return
	}
	o.Fixed(s.Ident[:], s.Ephemeral[:])
	o.Flag(s.HasOnce)
	if s.HasOnce {
		o.U32(s.OnceId)
	}
}

func takeSetup(i *wire.In) (has bool, s api.Setup) {
	if !i.Flag() {
		return false, s
	}
	takeFixed(i, s.Ident[:])
	takeFixed(i, s.Ephemeral[:])
	s.HasOnce = i.Flag()
	if s.HasOnce {
		s.OnceId = i.U32()
	}
	return true, s
}

func putHeader(o *wire.Out, h api.Header) {
	o.Fixed(h.Dh[:])
	o.U32(h.Prev, h.N)
}

func takeHeader(i *wire.In) (h api.Header) {
	takeFixed(i, h.Dh[:])
	h.Prev = i.U32()
	h.N = i.U32()
	return h
}

// takeFixed takes as many bytes as there is room for, into it.
func takeFixed(i *wire.In, room []byte) { copy(room, i.Fixed(len(room))) }
