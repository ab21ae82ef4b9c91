package sign_test

import (
	"bytes"
	"math"
	"slices"
	"strconv"
	"strings"
	"testing"

	"hailer/api"
	"hailer/sign"
)

// kinds are all that there are.
var kinds = []uint8{api.SgOffer, api.SgAnswer, api.SgCandidate, api.SgBusy, api.SgHangup, api.SgElsewhere}

// counted are n bytes that count on from the first.
func counted(first byte, n int) []byte {
	b := make([]byte, n)
	for i := range b {
		b[i] = first + byte(i)
	}
	return b
}

// id and key are such that each byte of them is another one.
var (
	id  = api.CallId(counted(0x10, 16))
	key = api.Key(counted(0x80, 32))
)

// full is a signal of the kind that has all that the kind has, each thing unlike the others.
func full(kind uint8) api.Signal {
	s := api.Signal{Kind: kind, Id: id}
	switch kind {
	case api.SgOffer:
		s.Caller, s.Callee, s.Key = api.Dev{Account: 7, Device: 3}, 5, key
	case api.SgAnswer:
		s.Key = key
	case api.SgCandidate:
		s.N, s.Data = 0xa1b2c3d4, []byte("udp 1")
	case api.SgHangup:
		s.Reason = api.HgTimeout
	}
	return s
}

// least is a signal of the kind that has as little as it may.
func least(kind uint8) api.Signal {
	s := api.Signal{Kind: kind}
	if kind == api.SgHangup {
		s.Reason = api.HgNormal
	}
	return s
}

// thing is what signals may have: of which kinds it is, and signals with it, and otherwise like the one handed in.
type thing struct {
	name  string
	kinds []uint8
	with  func(s api.Signal) []api.Signal
}

// things are all that signals may have, beside Kind and Id: of numbers and fixed bytes each single bit, and more.
func things() []thing {
	return []thing{
		{"a caller's account", []uint8{api.SgOffer}, each(8, func(s *api.Signal, n uint64) { s.Caller.Account = uint8(n) })},
		{"a caller's device", []uint8{api.SgOffer}, each(8, func(s *api.Signal, n uint64) { s.Caller.Device = uint8(n) })},
		{"a callee", []uint8{api.SgOffer}, each(8, func(s *api.Signal, n uint64) { s.Callee = uint8(n) })},
		{"a key", []uint8{api.SgOffer, api.SgAnswer}, func(s api.Signal) (l []api.Signal) {
			for bit := range 256 {
				s.Key = api.Key{}
				s.Key[bit/8] = 1 << (bit % 8)
				l = append(l, s)
			}
			s.Key = key
			return append(l, s)
		}},
		{"a number", []uint8{api.SgCandidate}, each(32, func(s *api.Signal, n uint64) { s.N = uint32(n) })},
		{"bytes", []uint8{api.SgCandidate}, func(s api.Signal) (l []api.Signal) {
			for _, n := range []int{1, 2, 16, api.MaxText, api.MaxText + 1} {
				s.Data = make([]byte, n)
				l = append(l, s)
				s.Data = bytes.Repeat([]byte{0xff}, n)
				l = append(l, s)
			}
			return l
		}},
		{"a reason", []uint8{api.SgHangup}, func(s api.Signal) (l []api.Signal) {
			for n := 1; n < 256; n++ {
				s.Reason = uint8(n)
				l = append(l, s)
			}
			return l
		}},
	}
}

// each are signals with a number of so many bits set: to a single one of them, and to all.
func each(bits int, set func(s *api.Signal, n uint64)) func(s api.Signal) []api.Signal {
	return func(s api.Signal) (l []api.Signal) {
		for bit := range bits {
			set(&s, 1<<bit)
			l = append(l, s)
		}
		set(&s, 1<<bits-1)
		return append(l, s)
	}
}

// is tells whether both are one signal; bytes of none are one, whether nil or not.
func is(a, b api.Signal) bool {
	return a.Kind == b.Kind && a.Id == b.Id && a.Caller == b.Caller && a.Callee == b.Callee && a.Key == b.Key &&
		a.N == b.N && bytes.Equal(a.Data, b.Data) && a.Reason == b.Reason
}

// zero tells whether nothing is in the signal, not even bytes of none.
func zero(s api.Signal) bool { return is(s, api.Signal{}) && s.Data == nil }

// mayBe tells where the signal may not be, has not these bytes, or is not taken as it was.
func mayBe(t *testing.T, what string, s api.Signal, want []byte) {
	t.Helper()
	if !sign.May(s) {
		t.Errorf("%s: it may not be", what)
	}
	b, e := sign.Put(s)
	if e != api.OK || !bytes.Equal(b, want) {
		t.Errorf("%s: put as % x, error %d; not % x", what, head(b), e, head(want))
	}
	if got, e := sign.Take(want); e != api.OK || !is(got, s) {
		t.Errorf("%s: taken as %v, error %d", what, got, e)
	}
}

// mayNot tells where the signal may be, or is put.
func mayNot(t *testing.T, what string, s api.Signal) {
	t.Helper()
	if sign.May(s) {
		t.Errorf("%s: it may be", what)
	}
	if b, e := sign.Put(s); e != api.ErrArg || b != nil {
		t.Errorf("%s: put as % x, error %d; not none, ErrArg", what, head(b), e)
	}
}

// noBytes tells where these are a signal's.
func noBytes(t *testing.T, what string, b []byte) {
	t.Helper()
	if s, e := sign.Take(b); e != api.ErrBytes || !zero(s) {
		t.Errorf("%s: % x taken as %v, error %d; not zero, ErrBytes", what, head(b), s, e)
	}
}

// head are the first bytes, of many.
func head(b []byte) []byte { return b[:min(len(b), 64)] }

// of names a kind.
func of(kind uint8) string { return "kind " + strconv.Itoa(int(kind)) }

// P9.1, P9.2: the chapter's examples.
func TestExamples(t *testing.T) {
	mayBe(t, "a busy of id 0", api.Signal{Kind: api.SgBusy}, append([]byte{4}, make([]byte, 16)...))
	mayNot(t, "a hangup without a reason", api.Signal{Kind: api.SgHangup})
	mayNot(t, "a busy with a key", api.Signal{Kind: api.SgBusy, Key: key})
	b, e := sign.Put(full(api.SgCandidate))
	if e != api.OK || len(b) < 22 {
		t.Fatalf("a candidate: % x, error %d", b, e)
	}
	noBytes(t, "a candidate's first 21 bytes", b[:21])
}

// P9.1: a signal of each of the kinds may be, whatever id it has; of any other it may not.
func TestKinds(t *testing.T) {
	for n := range 256 {
		kind := uint8(n)
		if !slices.Contains(kinds, kind) {
			mayNot(t, of(kind), api.Signal{Kind: kind})
			mayNot(t, of(kind)+", with an id", api.Signal{Kind: kind, Id: id})
			for _, x := range things() {
				for _, s := range x.with(least(kind)) {
					mayNot(t, of(kind)+", with "+x.name, s)
				}
			}
			continue
		}
		mayBe(t, of(kind), full(kind), spelt(full(kind)))
		mayBe(t, of(kind)+", least", least(kind), spelt(least(kind)))
		for bit := range 128 {
			s := full(kind)
			s.Id = api.CallId{}
			s.Id[bit/8] = 1 << (bit % 8)
			mayBe(t, of(kind)+", an id of one bit", s, spelt(s))
		}
	}
}

// P9.1: for each single thing that its kind has not, and that is not zero, or not nothing, a signal may not be; bytes of none are nothing.
func TestNotOfTheKind(t *testing.T) {
	for _, kind := range kinds {
		for _, was := range []api.Signal{least(kind), full(kind)} {
			for _, x := range things() {
				if slices.Contains(x.kinds, kind) {
					continue
				}
				for _, s := range x.with(was) {
					mayNot(t, of(kind)+", with "+x.name, s)
				}
			}
			if kind != api.SgCandidate {
				was.Data = []byte{}
				mayBe(t, of(kind)+", bytes of none", was, spelt(was))
				was.Data = counted(1, 9)[:0]
				mayBe(t, of(kind)+", bytes of none, with room", was, spelt(was))
			}
		}
	}
}

// P9.1, P9.2: of an offer an account of MaxAccounts less one, a device of MaxDevices less one may be, for the caller as for the callee; one more may not, nor any that is greater.
func TestOfferBounds(t *testing.T) {
	for n := range 256 {
		x := uint8(n)
		for what, c := range map[string]struct {
			set func(s *api.Signal)
			may bool
			at  int
		}{
			"a caller's account": {func(s *api.Signal) { s.Caller.Account = x }, n < 8, 17},
			"a caller's device":  {func(s *api.Signal) { s.Caller.Device = x }, n < 4, 18},
			"a callee":           {func(s *api.Signal) { s.Callee = x }, n < 8, 19},
		} {
			for _, s := range []api.Signal{least(api.SgOffer), full(api.SgOffer)} {
				b := spelt(s)
				c.set(&s)
				b[c.at] = x
				what := what + " of " + strconv.Itoa(n)
				if c.may {
					mayBe(t, what, s, b)
				} else {
					mayNot(t, what, s)
					noBytes(t, what, b)
				}
			}
		}
	}
	if api.MaxAccounts != 8 || api.MaxDevices != 4 {
		t.Error("the bounds are not the document's")
	}
	calls := full(api.SgOffer)
	calls.Callee = calls.Caller.Account
	mayBe(t, "an account that calls itself", calls, spelt(calls))
}

// P9.1, P9.2: an offer and an answer have any key, zeros among them.
func TestKeys(t *testing.T) {
	for _, kind := range []uint8{api.SgOffer, api.SgAnswer} {
		for _, k := range []api.Key{{}, {31: 1}, {0: 1}, key, api.Key(bytes.Repeat([]byte{0xff}, 32))} {
			s := full(kind)
			s.Key = k
			mayBe(t, of(kind)+", a key", s, spelt(s))
		}
	}
}

// P9.1, P9.2: a candidate has none, one, or up to MaxText bytes, whatever they are, and any number; one more byte it may not have.
func TestCandidateBounds(t *testing.T) {
	for _, n := range []int{0, 1, 2, 255, 256, 257, 511, 512, api.MaxText - 1, api.MaxText} {
		for _, number := range []uint32{0, 1, 0x01020304, 1 << 31, math.MaxUint32} {
			s := api.Signal{Kind: api.SgCandidate, Id: id, N: number, Data: counted(byte(n), n)}
			mayBe(t, strconv.Itoa(n)+" bytes", s, spelt(s))
		}
	}
	nothing := api.Signal{Kind: api.SgCandidate, Id: id, N: 7}
	mayBe(t, "nil bytes", nothing, spelt(nothing))
	for _, n := range []int{api.MaxText + 1, api.MaxText + 2, 2 * api.MaxText, 65535, 65536, 65536 + api.MaxText, 1 << 20} {
		s := api.Signal{Kind: api.SgCandidate, Id: id, N: 7, Data: make([]byte, n)}
		mayNot(t, strconv.Itoa(n)+" bytes", s)
		noBytes(t, strconv.Itoa(n)+" bytes", spelt(s))
	}
	for _, n := range []int{0, 1, 5, api.MaxText} { // another number of them than is told
		s := api.Signal{Kind: api.SgCandidate, Id: id, N: 7, Data: counted(1, n)}
		for _, told := range []int{0, 1, n - 1, n + 1, n + 256, api.MaxText, api.MaxText + 1, 65535} {
			if told != n && told >= 0 {
				b := spelt(s)
				b[21], b[22] = byte(told>>8), byte(told)
				noBytes(t, strconv.Itoa(n)+" bytes, told to be "+strconv.Itoa(told), b)
			}
		}
	}
}

// P9.1, P9.2: a hangup's reason is from HgNormal to HgGlare; one below is none, nor is one above, nor any that is greater.
func TestReasons(t *testing.T) {
	reasons := []uint8{api.HgNormal, api.HgDecline, api.HgTimeout, api.HgGlare}
	for n := range 256 {
		s := api.Signal{Kind: api.SgHangup, Id: id, Reason: uint8(n)}
		what := "the reason " + strconv.Itoa(n)
		if slices.Contains(reasons, uint8(n)) {
			mayBe(t, what, s, spelt(s))
			continue
		}
		mayNot(t, what, s)
		noBytes(t, what, append(spelt(least(api.SgHangup))[:17], byte(n)))
	}
}

// P9.1, P9.2: each kind's fields stand where the document lays them.
func TestBytes(t *testing.T) {
	const (
		ids  = "\x10\x11\x12\x13\x14\x15\x16\x17\x18\x19\x1a\x1b\x1c\x1d\x1e\x1f"
		keys = "\x80\x81\x82\x83\x84\x85\x86\x87\x88\x89\x8a\x8b\x8c\x8d\x8e\x8f\x90\x91\x92\x93\x94\x95\x96\x97\x98\x99\x9a\x9b\x9c\x9d\x9e\x9f"
	)
	long := api.Signal{Kind: api.SgCandidate, Id: id, N: 0x00ff0001, Data: counted(0, 300)}
	for _, c := range []struct {
		name string
		s    api.Signal
		want string
	}{
		{"an offer", full(api.SgOffer), "\x01" + ids + "\x07\x03\x05" + keys},
		{"an offer of zeros", least(api.SgOffer), "\x01" + strings.Repeat("\x00", 51)},
		{"an offer to an account", api.Signal{Kind: api.SgOffer, Callee: 7}, "\x01" + strings.Repeat("\x00", 18) + "\x07" + strings.Repeat("\x00", 32)},
		{"an offer of a device", api.Signal{Kind: api.SgOffer, Caller: api.Dev{Device: 2}}, "\x01" + strings.Repeat("\x00", 17) + "\x02" + strings.Repeat("\x00", 33)},
		{"an offer of an account", api.Signal{Kind: api.SgOffer, Caller: api.Dev{Account: 6}}, "\x01" + strings.Repeat("\x00", 16) + "\x06" + strings.Repeat("\x00", 34)},
		{"an answer", full(api.SgAnswer), "\x02" + ids + keys},
		{"an answer of zeros", least(api.SgAnswer), "\x02" + strings.Repeat("\x00", 48)},
		{"a candidate", full(api.SgCandidate), "\x03" + ids + "\xa1\xb2\xc3\xd4\x00\x05udp 1"},
		{"a candidate of zeros", least(api.SgCandidate), "\x03" + strings.Repeat("\x00", 22)},
		{"a candidate of 300 bytes", long, "\x03" + ids + "\x00\xff\x00\x01\x01\x2c" + string(long.Data)},
		{"a busy", full(api.SgBusy), "\x04" + ids},
		{"a hangup", full(api.SgHangup), "\x05" + ids + "\x03"},
		{"a hangup of id 0", least(api.SgHangup), "\x05" + strings.Repeat("\x00", 16) + "\x01"},
		{"an elsewhere", full(api.SgElsewhere), "\x06" + ids},
	} {
		mayBe(t, c.name, c.s, []byte(c.want))
	}
}

// P9.2, P9.3: cut short at each place, and with a byte more behind, whichever it is, they are no signal's bytes.
func TestCutAndMore(t *testing.T) {
	noBytes(t, "nil", nil)
	noBytes(t, "none", []byte{})
	most := api.Signal{Kind: api.SgCandidate, Id: id, N: 9, Data: counted(3, api.MaxText)}
	signals := []api.Signal{most}
	for _, kind := range kinds {
		signals = append(signals, least(kind), full(kind))
	}
	for _, s := range signals {
		b := spelt(s)
		for n := range b {
			noBytes(t, of(s.Kind)+", cut short", b[:n])
		}
		for x := range 256 {
			noBytes(t, of(s.Kind)+", and one more", append(slices.Clone(b), byte(x)))
		}
		noBytes(t, of(s.Kind)+", twice", append(slices.Clone(b), b...))
		noBytes(t, of(s.Kind)+", and many more", append(slices.Clone(b), make([]byte, 1<<20)...))
	}
}

// P9.2: of kinds that are none there are no bytes, however many there be.
func TestTakeKinds(t *testing.T) {
	for n := range 256 {
		if slices.Contains(kinds, uint8(n)) {
			continue
		}
		for _, kind := range kinds {
			b := spelt(full(kind))
			b[0] = byte(n)
			noBytes(t, of(byte(n)), b)
		}
		for size := range 60 {
			noBytes(t, of(byte(n)), append([]byte{byte(n)}, make([]byte, size)...))
		}
	}
}

// P9.1, P9.2, R3: what Put and Take give is in memory of its own.
func TestOwnMemory(t *testing.T) {
	data := []byte("candidate")
	s := api.Signal{Kind: api.SgCandidate, Id: id, N: 1, Data: data}
	want := spelt(s)
	one, _ := sign.Put(s)
	two, _ := sign.Put(s)
	clear(data)
	if !bytes.Equal(one, want) || !bytes.Equal(two, want) {
		t.Errorf("with other bytes handed in then, it is put as % x, % x", one, two)
	}
	clear(one)
	_ = append(one, "over"...)
	if !bytes.Equal(two, want) {
		t.Errorf("put twice, and the first written over: % x", two)
	}

	b := slices.Clone(want)
	first, _ := sign.Take(b)
	second, _ := sign.Take(b)
	clear(first.Data)
	_ = append(first.Data, "over and over"...)
	if !bytes.Equal(b, want) || string(second.Data) != "candidate" {
		t.Errorf("taken twice, and the first written over: %q, of % x", second.Data, b)
	}
	clear(b)
	if string(second.Data) != "candidate" {
		t.Errorf("with other bytes handed in then, it is taken as %q", second.Data)
	}
}

// R3: what is handed in is not changed, nor what stands behind it.
func TestHandedInStays(t *testing.T) {
	whole := counted(1, 2*api.MaxText)
	stays := func(what string) {
		t.Helper()
		if !bytes.Equal(whole, counted(1, 2*api.MaxText)) {
			t.Fatalf("%s: what was handed in is otherwise", what)
		}
	}
	for _, n := range []int{0, 1, 9, api.MaxText, api.MaxText + 1} {
		for _, kind := range append(slices.Clone(kinds), 0, 7) {
			s := least(kind)
			s.Data = whole[:n]
			sign.May(s)
			stays("May")
			sign.Put(s)
			stays("Put")
		}
	}
	for _, kind := range kinds {
		b := spelt(full(kind))
		was := slices.Clone(b)
		for n := range len(b) + 1 {
			sign.Take(b[:n])
			if !bytes.Equal(b, was) {
				t.Fatalf("%s: its first %d bytes, handed in, are otherwise", of(kind), n)
			}
		}
	}
	sign.Take(whole)
	stays("Take")
}

// R5: what was put or taken ahead, or failed, is nothing to what comes then.
func TestApart(t *testing.T) {
	for _, ahead := range kinds {
		for _, kind := range kinds {
			bad := full(ahead)
			bad.Kind = 0
			sign.Put(full(ahead))
			sign.Put(bad)
			sign.Take(spelt(full(ahead)))
			sign.Take(spelt(full(ahead))[:16])
			mayBe(t, of(kind), least(kind), spelt(least(kind)))
			mayBe(t, of(kind), full(kind), spelt(full(kind)))
		}
	}
}
