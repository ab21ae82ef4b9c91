package rec_test

import (
	"bytes"
	"math"
	"slices"
	"strconv"
	"strings"
	"testing"

	"hailer/api"
	"hailer/rec"
)

// counted are n bytes that count on from the first.
func counted(first byte, n int) []byte {
	b := make([]byte, n)
	for i := range b {
		b[i] = first + byte(i)
	}
	return b
}

// full is a record each thing of which, and each byte of it, is unlike the others.
func full() api.Record {
	return api.Record{
		Id: api.CallId(counted(0x10, 16)), Peer: 7, Out: true, Outcome: api.OcElsewhere,
		Began: 0x3132333435363738, Answered: 0x4142434445464748, Ended: 0x5152535455565758,
	}
}

// least is a record of as little as one may have.
func least() api.Record { return api.Record{Outcome: api.OcHere} }

// number is a number's name.
func number(n int) string { return strconv.Itoa(n) }

// head are the first bytes, of many.
func head(b []byte) []byte { return b[:min(len(b), 64)] }

// mayBe tells where the record may not be, has not these bytes, or is not taken as it was.
func mayBe(t *testing.T, what string, r api.Record, want []byte) {
	t.Helper()
	if !rec.May(r) {
		t.Errorf("%s: %v may not be", what, r)
	}
	b, e := rec.Put(r)
	if e != api.OK || !bytes.Equal(b, want) {
		t.Errorf("%s: put as % x, error %d; not % x", what, b, e, want)
	}
	if got, e := rec.Take(want); e != api.OK || got != r {
		t.Errorf("%s: taken as %v, error %d; not %v", what, got, e, r)
	}
}

// mayNot tells where the record may be, or is put, or taken of what would be its bytes.
func mayNot(t *testing.T, what string, r api.Record) {
	t.Helper()
	if rec.May(r) {
		t.Errorf("%s: %v may be", what, r)
	}
	if b, e := rec.Put(r); e != api.ErrArg || b != nil {
		t.Errorf("%s: %v put as % x, error %d; not none, ErrArg", what, r, b, e)
	}
	noBytes(t, what, spelt(r))
}

// mayIf tells where the record may be, though it may not, or the other way round.
func mayIf(t *testing.T, yes bool, what string, r api.Record) {
	t.Helper()
	if yes {
		mayBe(t, what, r, spelt(r))
	} else {
		mayNot(t, what, r)
	}
}

// noBytes tells where these are a record's.
func noBytes(t *testing.T, what string, b []byte) {
	t.Helper()
	if r, e := rec.Take(b); e != api.ErrBytes || r != (api.Record{}) {
		t.Errorf("%s: % x taken as %v, error %d; not zero, ErrBytes", what, head(b), r, e)
	}
}

// P11.1: the chapter's examples.
func TestExamples(t *testing.T) {
	mayNot(t, "outcome 0", api.Record{})
	mayNot(t, "Began 3, Ended 2", api.Record{Outcome: api.OcMissed, Began: 3, Ended: 2})
	mayNot(t, "Began 3, Answered 2, Ended 9", api.Record{Outcome: api.OcHere, Began: 3, Answered: 2, Ended: 9})
	noBytes(t, "42 bytes", spelt(full())[:42])
	if rec.Bytes != 43 {
		t.Errorf("a record has %d bytes", rec.Bytes)
	}
}

// P11.1: fields stand where the document lays them.
func TestBytes(t *testing.T) {
	const (
		ids   = "\x10\x11\x12\x13\x14\x15\x16\x17\x18\x19\x1a\x1b\x1c\x1d\x1e\x1f"
		ticks = "\x31\x32\x33\x34\x35\x36\x37\x38\x41\x42\x43\x44\x45\x46\x47\x48\x51\x52\x53\x54\x55\x56\x57\x58"
	)
	zeros := func(n int) string { return strings.Repeat("\x00", n) }
	came := full()
	came.Out = false
	never := full()
	never.Answered = 0
	for _, c := range []struct {
		name string
		r    api.Record
		want string
	}{
		{"dialled here", full(), ids + "\x07\x01\x02" + ticks},
		{"not dialled here", came, ids + "\x07\x00\x02" + ticks},
		{"never answered", never, ids + "\x07\x01\x02" + ticks[:8] + zeros(8) + ticks[16:]},
		{"least", least(), zeros(16) + "\x00\x00\x01" + zeros(24)},
		{"a peer", api.Record{Peer: 5, Outcome: api.OcHere}, zeros(16) + "\x05\x00\x01" + zeros(24)},
		{"dialled", api.Record{Out: true, Outcome: api.OcHere}, zeros(16) + "\x00\x01\x01" + zeros(24)},
		{"cancelled", api.Record{Outcome: api.OcCancelled}, zeros(16) + "\x00\x00\x07" + zeros(24)},
		{"ended at 1", api.Record{Outcome: api.OcBusy, Ended: 1}, zeros(16) + "\x00\x00\x05" + zeros(23) + "\x01"},
		{"answered at 256", api.Record{Outcome: api.OcHere, Answered: 256, Ended: 256}, zeros(16) + "\x00\x00\x01" + zeros(14) + "\x01\x00" + zeros(6) + "\x01\x00"},
		{"began at 1", api.Record{Outcome: api.OcFailed, Began: 1, Ended: 1}, zeros(16) + "\x00\x00\x06" + zeros(7) + "\x01" + zeros(15) + "\x01"},
	} {
		mayBe(t, c.name, c.r, []byte(c.want))
	}
}

// P11.1: an account of MaxAccounts less one may be the peer; one more may not, nor any that is greater.
func TestPeers(t *testing.T) {
	if api.MaxAccounts != 8 {
		t.Fatal("the bound is not the document's")
	}
	for n := range 256 {
		for _, r := range []api.Record{least(), full()} {
			r.Peer = uint8(n)
			mayIf(t, n < 8, "the peer "+number(n), r)
		}
	}
}

// P11.1: an outcome is from OcHere to OcCancelled, whether it was answered or not, and dialled here or not; one below is none, nor is one above, nor any that is greater.
func TestOutcomes(t *testing.T) {
	outcomes := []uint8{api.OcHere, api.OcElsewhere, api.OcMissed, api.OcDeclined, api.OcBusy, api.OcFailed, api.OcCancelled}
	for n := range 256 {
		for _, r := range []api.Record{least(), full()} {
			r.Outcome = uint8(n)
			for _, r.Out = range []bool{false, true} {
				mayIf(t, slices.Contains(outcomes, uint8(n)), "the outcome "+number(n), r)
			}
		}
	}
}

// P11.1: ticks may be such as the document says, where they are equal, follow one another, or lie far apart: of all that begin, are answered and end so.
func TestTicks(t *testing.T) {
	edges := []uint64{0, 1, 2, 3, 255, 256, math.MaxUint32, math.MaxUint32 + 1, math.MaxInt64, math.MaxInt64 + 1, math.MaxUint64 - 1, math.MaxUint64}
	yes := 0
	for _, began := range edges {
		for _, answered := range edges {
			for _, ended := range edges {
				r := full()
				r.Began, r.Answered, r.Ended = began, answered, ended
				if may(r) {
					yes++
				}
				mayIf(t, may(r), "ticks", r)
			}
		}
	}
	// Of 12 edges there are 364 rising threes; the 66 pairs of a call that began later than 0 and was never answered are beside them.
	if yes != 364+66 {
		t.Errorf("%d may be", yes)
	}
}

// P11.1: of ticks that may be, these by name.
func TestTicksByName(t *testing.T) {
	for _, c := range []struct {
		name                   string
		began, answered, ended uint64
		may                    bool
	}{
		{"all at once", 5, 5, 5, true},
		{"answered as it began", 5, 5, 9, true},
		{"answered as it ended", 5, 9, 9, true},
		{"answered between", 5, 7, 9, true},
		{"never answered", 5, 0, 9, true},
		{"never answered, ended as it began", 5, 0, 5, true},
		{"from the first tick to the last one", 0, 0, math.MaxUint64, true},
		{"answered at the last tick", 0, math.MaxUint64, math.MaxUint64, true},
		{"answered a tick ahead", 5, 4, 9, false},
		{"answered a tick behind", 5, 10, 9, false},
		{"answered at tick 1, far ahead", 5, 1, 9, false},
		{"ended a tick ahead", 5, 0, 4, false},
		{"ended ahead, answered between", 9, 7, 5, false},
		{"ended at 0", 1, 0, 0, false},
		{"all falling", 9, 5, 0, false},
	} {
		mayIf(t, c.may, c.name, api.Record{Outcome: api.OcHere, Began: c.began, Answered: c.answered, Ended: c.ended})
	}
}

// P11.1: a record has any id, zeros among them.
func TestIds(t *testing.T) {
	for bit := range 128 {
		r := full()
		r.Id = api.CallId{}
		r.Id[bit/8] = 1 << (bit % 8)
		mayBe(t, "an id of one bit", r, spelt(r))
	}
	for _, id := range []api.CallId{{}, api.CallId(bytes.Repeat([]byte{0xff}, 16))} {
		r := full()
		r.Id = id
		mayBe(t, "an id", r, spelt(r))
	}
}

// P11.1: a truth value is 1 or 0.
func TestTruth(t *testing.T) {
	for n := 2; n < 256; n++ {
		b := spelt(full())
		b[17] = byte(n)
		noBytes(t, "the truth value "+number(n), b)
	}
}

// P11.1, P11.3: cut short at each place, and with more behind, or ahead, they are no record's bytes.
func TestCutAndMore(t *testing.T) {
	noBytes(t, "nil", nil)
	noBytes(t, "none", []byte{})
	for _, r := range []api.Record{least(), full()} {
		b := spelt(r)
		for n := range b {
			noBytes(t, "cut short", b[:n])
			noBytes(t, "the last ones", b[n+1:])
		}
		for x := range 256 {
			noBytes(t, "one more behind", append(slices.Clone(b), byte(x)))
			noBytes(t, "one more ahead", append([]byte{byte(x)}, b...))
		}
		noBytes(t, "twice", append(slices.Clone(b), b...))
		noBytes(t, "many more", append(slices.Clone(b), make([]byte, 1<<20)...))
	}
}

// P11.1, R3: what Put answers is in memory of its own, and what is handed in to Take is not changed, nor what stands behind it.
func TestMemory(t *testing.T) {
	one, _ := rec.Put(full())
	two, _ := rec.Put(full())
	clear(one)
	_ = append(one, "over"...)
	if !bytes.Equal(two, spelt(full())) {
		t.Errorf("put twice, and the first written over: % x", two)
	}
	b := append(spelt(full()), counted(7, 50)...)
	was := slices.Clone(b)
	for n := range len(b) + 1 {
		rec.Take(b[:n])
		if !bytes.Equal(b, was) {
			t.Fatalf("the first %d bytes, handed in, are otherwise", n)
		}
	}
}

// R5: what was put or taken ahead, or failed, is nothing to what comes then.
func TestApart(t *testing.T) {
	for range 3 {
		rec.Put(api.Record{})
		rec.Take(spelt(full())[:17])
		mayBe(t, "behind what failed", least(), spelt(least()))
		mayBe(t, "behind another one", full(), spelt(full()))
	}
}
