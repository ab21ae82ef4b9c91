package sign_test

import (
	"bytes"
	"encoding/binary"
	"math/rand"
	"slices"
	"testing"

	"hailer/api"
	"hailer/sign"
)

// spelt are the bytes that the document's words tell of a signal, whether it may be or not; of no kind Kind and Id.
func spelt(s api.Signal) []byte {
	b := append([]byte{s.Kind}, s.Id[:]...)
	switch s.Kind {
	case 1:
		b = append(append(b, s.Caller.Account, s.Caller.Device, s.Callee), s.Key[:]...)
	case 2:
		b = append(b, s.Key[:]...)
	case 3:
		b = binary.BigEndian.AppendUint32(b, s.N)
		b = append(binary.BigEndian.AppendUint16(b, uint16(len(s.Data))), s.Data...)
	case 5:
		b = append(b, s.Reason)
	}
	return b
}

// may tells, by the document's words, field by field, whether a signal may be.
func may(s api.Signal) bool {
	offer, answer, candidate, hangup := s.Kind == 1, s.Kind == 2, s.Kind == 3, s.Kind == 5
	for _, wrong := range []bool{
		s.Kind < 1 || s.Kind > 6,
		s.Caller != api.Dev{} && !offer,
		s.Callee != 0 && !offer,
		s.Key != api.Key{} && !offer && !answer,
		s.N != 0 && !candidate,
		len(s.Data) > 0 && !candidate,
		s.Reason != 0 && !hangup,
		s.Caller.Account > 7 || s.Caller.Device > 3 || s.Callee > 7,
		len(s.Data) > 1024,
		hangup && s.Reason == 0 || s.Reason > 4,
	} {
		if wrong {
			return false
		}
	}
	return true
}

// told tells, by the document's words, whether these are all bytes of a signal that may be.
func told(b []byte) bool {
	if len(b) < 17 {
		return false
	}
	own := b[17:]
	switch b[0] {
	case 1:
		return len(own) == 35 && own[0] < 8 && own[1] < 4 && own[2] < 8
	case 2:
		return len(own) == 32
	case 3:
		return len(own) >= 6 && len(own) <= 6+1024 && len(own) == 6+int(binary.BigEndian.Uint16(own[4:]))
	case 4, 6:
		return len(own) == 0
	case 5:
		return len(own) == 1 && own[0] > 0 && own[0] < 5
	}
	return false
}

// some is a signal of the kind that may be.
func some(r *rand.Rand, kind uint8) api.Signal {
	s := api.Signal{Kind: kind}
	r.Read(s.Id[:])
	switch kind {
	case api.SgOffer:
		s.Caller = api.Dev{Account: uint8(r.Intn(8)), Device: uint8(r.Intn(4))}
		s.Callee = uint8(r.Intn(8))
		r.Read(s.Key[:])
	case api.SgAnswer:
		r.Read(s.Key[:])
	case api.SgCandidate:
		s.N = r.Uint32() >> r.Intn(32)
		s.Data = make([]byte, r.Intn(1<<r.Intn(11)+1))
		r.Read(s.Data)
	case api.SgHangup:
		s.Reason = uint8(1 + r.Intn(4))
	}
	return s
}

// otherwise is a signal like this one, with some of its things those of any other one.
func otherwise(r *rand.Rand, s api.Signal) api.Signal {
	for range r.Intn(3) {
		switch r.Intn(7) {
		case 0:
			s.Kind = uint8(r.Intn(9))
		case 1:
			s.Caller = api.Dev{Account: uint8(r.Intn(10)), Device: uint8(r.Intn(6))}
		case 2:
			s.Callee = uint8(r.Intn(10))
		case 3:
			s.Key = api.Key{31: byte(r.Intn(2))}
		case 4:
			s.N = uint32(r.Intn(2))
		case 5:
			s.Data = make([]byte, []int{0, 0, 1, 1023, 1024, 1025}[r.Intn(6)])
		case 6:
			s.Reason = uint8(r.Intn(7))
		}
	}
	return s
}

// P9.1 to P9.3: random signals of each kind may be, have the document's bytes, and are taken as they were.
func TestRandomPutTaken(t *testing.T) {
	r := rand.New(rand.NewSource(1))
	for _, kind := range kinds {
		for range 2000 {
			s := some(r, kind)
			mayBe(t, of(kind), s, spelt(s))
		}
	}
}

// P9.1: a random signal may be just where the document's words have it, and is put just then.
func TestRandomMay(t *testing.T) {
	r := rand.New(rand.NewSource(2))
	yes, no := 0, 0
	for n := range 60000 {
		s := otherwise(r, some(r, kinds[n%len(kinds)]))
		if may(s) {
			yes++
			mayBe(t, of(s.Kind), s, spelt(s))
		} else {
			no++
			mayNot(t, of(s.Kind), s)
		}
	}
	if yes < 10000 || no < 10000 {
		t.Errorf("%d may be, %d may not: ones of a kind are hardly tried", yes, no)
	}
}

// P9.2, P9.3: random bytes, and a signal's with some otherwise, are taken just where the document's words have it, and put again as they are.
func TestRandomBytes(t *testing.T) {
	r := rand.New(rand.NewSource(3))
	right, wrong := 0, 0
	for n := range 120000 {
		b := other(r, spelt(some(r, kinds[n%len(kinds)])))
		if !told(b) {
			wrong++
			noBytes(t, "other bytes", b)
			continue
		}
		right++
		s, e := sign.Take(b)
		if e != api.OK || !sign.May(s) || !may(s) {
			t.Fatalf("% x: taken as %v, error %d", head(b), s, e)
		}
		if again, e := sign.Put(s); e != api.OK || !bytes.Equal(again, b) || !bytes.Equal(spelt(s), b) {
			t.Fatalf("% x: put again as % x, error %d", head(b), head(again), e)
		}
	}
	if right < 10000 || wrong < 10000 {
		t.Errorf("%d right, %d wrong: ones of a kind are hardly tried", right, wrong)
	}
}

// other are the bytes, with some of them otherwise, gone, or more; or as many that are any.
func other(r *rand.Rand, was []byte) []byte {
	b := slices.Clone(was)
	switch r.Intn(8) {
	case 0:
		r.Read(b)
		b[0] %= 8
	case 1:
		b[0] = byte(r.Intn(8))
	case 2:
		return b[:r.Intn(len(b)+1)]
	case 3:
		return append(b, make([]byte, 1+r.Intn(3))...)
	case 4:
		b[r.Intn(len(b))] = byte(r.Intn(256))
	case 5:
		b[min(17+r.Intn(6), len(b)-1)] = byte(r.Intn(10))
	case 6:
		b[r.Intn(len(b))] ^= 1 << r.Intn(8)
	}
	return b
}
