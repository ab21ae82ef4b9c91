package rec_test

import (
	"bytes"
	"iter"
	"slices"
	"testing"

	"hailer/api"
	"hailer/rec"
)

// gone are what it goes over.
func gone(seq iter.Seq2[int, api.Record]) (l []entry) {
	for at, r := range seq {
		l = append(l, entry{at, r})
	}
	return l
}

// goes tells where it goes over others than these records, from the first byte on, one behind the other.
func goes(t *testing.T, what string, seq iter.Seq2[int, api.Record], want ...api.Record) {
	t.Helper()
	l := gone(seq)
	if len(l) != len(want) {
		t.Errorf("%s: it goes over %d, not %d", what, len(l), len(want))
		return
	}
	for n, x := range l {
		isThat(t, what, n, x, want)
	}
}

// goesOver tells where others than these records of the bytes are gone over.
func goesOver(t *testing.T, what string, b []byte, want ...api.Record) {
	t.Helper()
	goes(t, what, rec.All(b), want...)
}

// isThat tells where the one that comes n-th is another one than of these records, or at another place.
func isThat(t *testing.T, what string, n int, got entry, want []api.Record) {
	t.Helper()
	if n >= len(want) || got != (entry{43 * n, want[n]}) {
		t.Errorf("%s: %v comes as number %d", what, got, n)
	}
}

// many are n records that may be, each unlike the others, and of each outcome some.
func many(n int) []api.Record {
	l := make([]api.Record, n)
	for i := range l {
		l[i] = api.Record{Id: api.CallId{byte(i >> 8), byte(i), 15: 1}, Peer: uint8(i % 8), Out: i%2 == 1, Outcome: uint8(1 + i%7), Began: uint64(i), Ended: uint64(2 * i)}
	}
	return l
}

// P11.2: the chapter's example: a record's bytes, and a byte more; and more of them.
func TestAllMoreBehind(t *testing.T) {
	l := many(3)
	for n := range 43 {
		goesOver(t, "one, and "+number(n)+" bytes more", append(spelt(full()), counted(1, n)...), full())
		goesOver(t, "three, and a fourth one's first "+number(n), append(joined(l), spelt(full())[:n]...), l...)
	}
}

// P11.2: of none, and of fewer bytes than a record has, it goes over nothing.
func TestAllFew(t *testing.T) {
	goesOver(t, "nil", nil)
	goesOver(t, "none", []byte{})
	for n := range 43 {
		goesOver(t, number(n)+" bytes", spelt(full())[:n])
		goesOver(t, number(n)+" bytes of more", append(spelt(full()), spelt(full())...)[:n])
	}
}

// P11.2, P11.3: records' bytes, one behind the other, are gone over as they were, the first one first, with their places, however many there are, alike or not.
func TestAllAsTheyWere(t *testing.T) {
	for _, n := range []int{0, 1, 2, 3, 7, 256, 257, api.MaxLog, api.MaxLog + 1, 3 * api.MaxLog} {
		l := many(n)
		goesOver(t, number(n), joined(l), l...)
		slices.Reverse(l)
		goesOver(t, number(n)+", the last one first", joined(l), l...)
	}
	goesOver(t, "one, three times", joined([]api.Record{full(), full(), full()}), full(), full(), full())
}

// P11.2: it goes up to the first bytes that are none's, whatever is wrong with them, and not beyond.
func TestAllUpToWrong(t *testing.T) {
	for _, c := range []struct {
		name string
		at   int
		to   byte
	}{
		{"a peer of 8", 16, 8},
		{"a peer of 255", 16, 255},
		{"a truth value of 2", 17, 2},
		{"an outcome of 0", 18, 0},
		{"an outcome of 8", 18, 8},
		{"began behind its end", 19, 0xff},
		{"answered ahead of its beginning", 27, 0x30},
		{"answered behind its end", 27, 0x52},
		{"ended ahead of its beginning", 35, 0},
	} {
		wrong := spelt(full())
		wrong[c.at] = c.to
		noBytes(t, c.name, wrong)
		for n := range 4 {
			l := many(n)
			b := append(joined(l), wrong...)
			goesOver(t, c.name+", the last one", b, l...)
			goesOver(t, c.name+", with others behind", append(b, joined(many(5))...), l...)
			goesOver(t, c.name+", with bytes behind", append(b, counted(0, 30)...), l...)
		}
	}
}

// P11.2: records stand from the first byte on, one right behind the other: what is between puts an end to it.
func TestAllPlaces(t *testing.T) {
	for n := 1; n < 43; n++ {
		between := bytes.Repeat([]byte{0xff}, n)
		goesOver(t, number(n)+" bytes ahead", slices.Concat(between, joined(many(3))))
		goesOver(t, number(n)+" bytes between", slices.Concat(joined(many(2)), between, joined(many(3))), many(2)...)
	}
}

// P11.2, R6: it may be left at any place, and does not go on then; gone over anew it begins anew.
func TestAllLeft(t *testing.T) {
	l := many(6)
	seq := rec.All(joined(l))
	for n := 1; n <= len(l); n++ {
		asked := 0
		seq(func(at int, r api.Record) bool {
			isThat(t, "left after "+number(n), asked, entry{at, r}, l)
			asked++
			return asked < n
		})
		if asked != n {
			t.Errorf("left after %d, it asks %d times", n, asked)
		}
	}
	for range 3 {
		goes(t, "anew", seq, l...)
	}
}

// R5, R6: a loop within another, over the same or over others, goes over all each time, and the outer one goes on.
func TestAllWithin(t *testing.T) {
	l, others := many(5), []api.Record{full(), least()}
	seq, second := rec.All(joined(l)), rec.All(joined(others))
	n := 0
	for at, r := range seq {
		isThat(t, "the outer one", n, entry{at, r}, l)
		goes(t, "within", seq, l...)
		goes(t, "others within", second, others...)
		n++
	}
	if n != len(l) {
		t.Errorf("the outer one goes over %d", n)
	}
}

// R3, R6: what was handed in is gone over as it stood, whatever it becomes ahead of the loop, or within it.
func TestAllAsItStood(t *testing.T) {
	l := many(4)
	b := joined(l)
	seq := rec.All(b)
	n := 0
	for at, r := range seq {
		isThat(t, "changed within the loop", n, entry{at, r}, l)
		clear(b)
		n++
	}
	if n != len(l) {
		t.Errorf("changed within the loop, it goes over %d", n)
	}
	copy(b, spelt(full()))
	goes(t, "changed ahead of the loop", seq, l...)
}

// R3: what is handed in is not changed, nor what stands behind it.
func TestAllHandedInStays(t *testing.T) {
	b := append(joined(many(4)), counted(9, 20)...)
	was := slices.Clone(b)
	for n := range len(b) + 1 {
		gone(rec.All(b[:n]))
		if !bytes.Equal(b, was) {
			t.Fatalf("the first %d bytes, handed in, are otherwise", n)
		}
	}
}
