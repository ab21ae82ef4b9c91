package sign

import (
	"hailer/api"
	"hailer/wire"
)

// part is what a signal has by its kind, beside Kind and Id: whether that may be, and how it is put, taken, and dropped. What it has not is no part's to look at.
type part struct {
	may  func() bool
	put  func(o *wire.Out)
	take func(i *wire.In)
	drop func()
}

// partOf is the part of this signal that its kind picks; false, if that is none of the kinds.
func partOf(s *api.Signal) (part, bool) {
	switch s.Kind {
	case api.SgOffer:
		return offer(s), true
	case api.SgAnswer:
		return answer(s), true
	case api.SgCandidate:
		return candidate(s), true
	case api.SgHangup:
		return hangup(s), true
	case api.SgBusy, api.SgElsewhere:
		return nothing(), true
	}
	return part{}, false
}

// offer is of who calls which account, and its key.
func offer(s *api.Signal) part {
	return part{
		may: func() bool {
			return s.Caller.Account < api.MaxAccounts && s.Caller.Device < api.MaxDevices && s.Callee < api.MaxAccounts
		},
		put: func(o *wire.Out) {
			o.U8(s.Caller.Account, s.Caller.Device, s.Callee)
			o.Fixed(s.Key[:])
		},
		take: func(i *wire.In) {
			s.Caller.Account = i.U8()
			s.Caller.Device = i.U8()
			s.Callee = i.U8()
			copy(s.Key[:], i.Fixed(len(s.Key)))
		},
		drop: func() { s.Caller, s.Callee, s.Key = api.Dev{}, 0, api.Key{} },
	}
}

// answer is of the answerer's key.
func answer(s *api.Signal) part {
	return part{
		may:  func() bool { return true },
		put:  func(o *wire.Out) { o.Fixed(s.Key[:]) },
		take: func(i *wire.In) { copy(s.Key[:], i.Fixed(len(s.Key))) },
		drop: func() { s.Key = api.Key{} },
	}
}

// candidate is of its number and bytes.
func candidate(s *api.Signal) part {
	return part{
		may: func() bool { return len(s.Data) <= api.MaxText },
		put: func(o *wire.Out) {
			o.U32(s.N)
			o.Sized(api.MaxText, s.Data)
		},
		take: func(i *wire.In) {
			s.N = i.U32()
			s.Data = i.Sized(api.MaxText)
		},
		drop: func() { s.N, s.Data = 0, nil },
	}
}

// hangup is of why it was hung up.
func hangup(s *api.Signal) part {
	return part{
		may:  func() bool { return api.HgNormal <= s.Reason && s.Reason <= api.HgGlare },
		put:  func(o *wire.Out) { o.U8(s.Reason) },
		take: func(i *wire.In) { s.Reason = i.U8() },
		drop: func() { s.Reason = 0 },
	}
}

// nothing is of a kind that has Kind and Id alone.
func nothing() part {
	return part{
		may:  func() bool { return true },
		put:  func(*wire.Out) {},
		take: func(*wire.In) {},
		drop: func() {},
	}
}
