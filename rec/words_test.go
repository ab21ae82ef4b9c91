package rec_test

import (
	"encoding/binary"
	"math/rand"
	"slices"

	"hailer/api"
)

// This file is a reading of the chapter's words that stands apart: what may be, which bytes a record has, which records bytes have.

// may tells whether a record may be.
func may(r api.Record) bool {
	for _, wrong := range []bool{
		r.Peer > 7,
		r.Outcome == 0,
		r.Outcome > 7,
		r.Ended < r.Began,
		r.Answered != 0 && r.Answered < r.Began,
		r.Answered != 0 && r.Answered > r.Ended,
	} {
		if wrong {
			return false
		}
	}
	return true
}

// spelt are a record's bytes, whether it may be or not.
func spelt(r api.Record) []byte {
	b := append(slices.Clone(r.Id[:]), r.Peer, 0, r.Outcome)
	if r.Out {
		b[17] = 1
	}
	for _, n := range []uint64{r.Began, r.Answered, r.Ended} {
		b = binary.BigEndian.AppendUint64(b, n)
	}
	return b
}

// told is the record whose bytes these all are; false, if there is none that may be.
func told(b []byte) (r api.Record, is bool) {
	if len(b) != 43 || b[17] > 1 {
		return r, false
	}
	r = api.Record{
		Id: api.CallId(b[:16]), Peer: b[16], Out: b[17] == 1, Outcome: b[18],
		Began: binary.BigEndian.Uint64(b[19:]), Answered: binary.BigEndian.Uint64(b[27:]), Ended: binary.BigEndian.Uint64(b[35:]),
	}
	if !may(r) {
		return api.Record{}, false
	}
	return r, true
}

// entry is a record, and the place at which it begins.
type entry struct {
	at int
	r  api.Record
}

// entries are the records of bytes, up to the first 43 bytes that are none's, or where there are fewer.
func entries(b []byte) (l []entry) {
	for at := 0; at+43 <= len(b); at += 43 {
		r, is := told(b[at : at+43])
		if !is {
			break
		}
		l = append(l, entry{at, r})
	}
	return l
}

// joined are the records' bytes, one behind the other.
func joined(l []api.Record) (b []byte) {
	for _, r := range l {
		b = append(b, spelt(r)...)
	}
	return b
}

// some is a record that may be.
func some(r *rand.Rand) (x api.Record) {
	r.Read(x.Id[:])
	x.Peer = uint8(r.Intn(8))
	x.Out = r.Intn(2) == 0
	x.Outcome = uint8(1 + r.Intn(7))
	ticks := []uint64{tick(r), tick(r), tick(r)}
	slices.Sort(ticks)
	x.Began, x.Answered, x.Ended = ticks[0], ticks[1], ticks[2]
	if r.Intn(3) == 0 {
		x.Answered = 0
	}
	return x
}

// tick is one of any size: few ticks as often as many.
func tick(r *rand.Rand) uint64 { return r.Uint64() >> r.Intn(64) }

// someRecords are up to most ones that may be.
func someRecords(r *rand.Rand, most int) []api.Record {
	l := make([]api.Record, r.Intn(most+1))
	for i := range l {
		l[i] = some(r)
	}
	return l
}

// otherwise is a record like this one, with a thing of it otherwise.
func otherwise(r *rand.Rand, x api.Record) api.Record {
	switch r.Intn(7) {
	case 0:
		x.Peer = uint8(r.Intn(10))
	case 1:
		x.Out = !x.Out
	case 2:
		x.Outcome = uint8(r.Intn(10))
	case 3:
		x.Began = tick(r)
	case 4:
		x.Answered = tick(r)
	case 5:
		x.Ended = tick(r)
	case 6:
		x.Began, x.Answered = x.Ended, x.Began
	}
	return x
}

// other are bytes, of one at least, with some of them otherwise, gone, or more; or as many that are any.
func other(r *rand.Rand, was []byte) []byte {
	b := slices.Clone(was)
	at := r.Intn(len(b))
	switch r.Intn(9) {
	case 0:
		r.Read(b)
	case 1:
		return b[:at]
	case 2:
		return append(b, make([]byte, 1+r.Intn(60))...)
	case 3:
		b[at] = byte(r.Intn(256))
	case 4:
		b[at] ^= 1 << r.Intn(8)
	case 5, 6: // the peer's, the truth value's, the outcome's, the ticks' first ones
		place := []int{16, 17, 18, 19, 27, 35}[r.Intn(6)]
		b[min(at-at%43+place, len(b)-1)] = byte(r.Intn(10))
	}
	return b
}
