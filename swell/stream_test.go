package swell_test

import (
	"bytes"
	"slices"
	"strings"
	"testing"

	"sapper/api"
	"sapper/bits"
	"sapper/block"
	"sapper/swell"
)

const plenty = 1 << 40 // more than ever comes

// P11.2, P11.7, P11.8: streams of all kinds of blocks

func TestStreams(t *testing.T) {
	for name, row := range streams() {
		for _, window := range []int{200, 32768} {
			for _, left := range []byte{0, 1} {
				everyWay(t, name, packed(row, left), window, 1<<28)
			}
		}
		// Refused: a match reaches 200 bytes back.
		if !strings.HasPrefix(name, "none") {
			everyWay(t, name, packed(row, 0), 199, 1<<28)
		}
	}
}

func TestEachKindBehindEachCount(t *testing.T) {
	l := ordinary()
	for shift := range 8 {
		row, ahead := moved(shift)
		if len(row)%8 != shift {
			t.Fatalf("%d bits, not %d", len(row)%8, shift)
		}
		data := grown(ahead, l...)
		want := slices.Concat(data, data[len(ahead):])
		for _, k := range kinds {
			// As the last one, in the middle, and of no bytes.
			last := packed(written(row, k, true, data[len(ahead):], l...), 1)
			middle := packed(written(written(row, k, false, data[len(ahead):], l...), block.Plain, true, data[len(ahead):], l...), 1)
			none := packed(written(row, k, true, nil), 1)
			for i, c := range []struct{ b, want []byte }{{last, data}, {middle, want}, {none, ahead}} {
				everyWay(t, "each kind", c.b, 200, len(c.want))
				if got, err := swell.All(c.b, 200, len(c.want)); err != api.OK || !bytes.Equal(got, c.want) {
					t.Errorf("kind %d behind %d bits, row %d: %x, %v", k, shift, i, got, err)
				}
			}
		}
	}
}

func TestBitsThatAreNotLookedAt(t *testing.T) {
	for shift := range 8 {
		row, ahead := moved(shift)
		want := slices.Concat(ahead, []byte("abc"))
		for _, fill := range []byte{0, 1} {
			for _, left := range []byte{0, 1} {
				// Up to a byte's end in a Stored block, and in the last byte of all, of each kind.
				stored := row + storedBlock(len(row), false, fill, 'a', 'b')
				for _, b := range [][]byte{
					packed(stored+storedBlock(0, true, fill, 'c'), left),
					packed(stored+plainBlock(true, lits('c')...), left),
					packed(written(stored, block.Own, true, []byte("c"), lits('c')...), left),
				} {
					everyWay(t, "not looked at", b, 1, 100)
					if got, err := swell.All(b, 1, 100); err != api.OK || !bytes.Equal(got, want) {
						t.Errorf("behind %d bits, %d, %d: %x, %v", shift, fill, left, got, err)
					}
				}
			}
		}
	}
}

func TestStoredOfNone(t *testing.T) {
	s := made(t, 1, 0)
	for _, c := range []byte("\x01\x00\x00\xff") {
		answers(t, "one by one", s, string([]byte{c}), 1, "", 1, api.OK)
	}
	stands(t, "ahead of its end", s, false, 0, api.ErrSwellEnd)
	s = made(t, 1, 0)
	answers(t, "all but one", s, "\x01\x00\x00\xff", 1, "", 4, api.OK)
	answers(t, "the last one", s, "\xff", 1, "", 1, api.OK)
	stands(t, "the last one", s, true, 0, api.OK)
	// Many of them, ahead of a byte.
	b := strings.Repeat("\x00\x00\x00\xff\xff", 50) + "\x4b\x04\x00"
	s = made(t, 1, 1)
	answers(t, "many", s, b, 1, "a", len(b)-1, api.OK)
	answers(t, "the end", s, b[len(b)-1:], 1, "", 1, api.OK)
	stands(t, "the end", s, true, 1, api.OK)
}

// A Stored block's end is a thing of its own behind its last byte.
func TestStoredEnd(t *testing.T) {
	s := made(t, 1, 2)
	answers(t, "both bytes", s, "\x01\x02\x00\xfd\xffab", 2, "ab", 7, api.OK)
	stands(t, "both bytes", s, false, 2, api.ErrSwellEnd)
	answers(t, "most 0", s, "\x03", 0, "", 0, api.OK)
	stands(t, "most 0", s, false, 2, api.ErrSwellEnd)
	answers(t, "the end", s, "\x03", 1, "", 0, api.OK)
	stands(t, "the end", s, true, 2, api.OK)
	// Not the last block: the next one's bits are wanted.
	s = made(t, 1, 2)
	answers(t, "both bytes", s, "\x00\x02\x00\xfd\xffab\x03\x00", 2, "ab", 7, api.OK)
	answers(t, "on", s, "\x03\x00", 1, "", 2, api.OK)
	stands(t, "on", s, true, 2, api.OK)
	// With more asked for than comes it ends at once.
	s = made(t, 1, 2)
	answers(t, "all", s, "\x01\x02\x00\xfd\xffab", 3, "ab", 7, api.OK)
	stands(t, "all", s, true, 2, api.OK)
}

func TestStoredOfMany(t *testing.T) {
	r := rolls(51)
	for _, n := range []int{65534, 65535} {
		data := r.bytes(n, 256)
		var w bits.Writer
		w.Put(0, 3)
		w.Align()
		w.Put(uint64(n), 16)
		w.Put(uint64(^n&65535), 16)
		w.Whole(data...)
		// Behind it a match as far back as the window.
		w.Put(3, 3)
		symbol, count, more, _ := block.DistSymbol(32768)
		w.Turned(1, 7) // 257: three bytes
		w.Turned(uint64(symbol), 5)
		w.Put(uint64(more), count)
		w.Put(0, 7)
		b := w.Bytes()
		want := slices.Concat(data, data[n-32768:n-32765])
		if got, err := swell.All(b, 32768, n+3); err != api.OK || !bytes.Equal(got, want) {
			t.Errorf("%d: %d bytes, %v", n, len(got), err)
		}
		if _, err := swell.All(b, 32767, n+3); err != api.ErrSwellFar {
			t.Errorf("%d: a window one too small: %v", n, err)
		}
		p := newPair(t, "stored", b, 32768, n+3)
		if got := p.through(r.some(5000), r.some(4000)); !bytes.Equal(got, want) || !p.s.Done() {
			t.Errorf("%d: %d bytes in pieces", n, len(got))
		}
	}
}

// 284 with all more bits 1 is 258, as 285 is; with all but the lowest, or the highest, it is less.
func TestSymbol284(t *testing.T) {
	for more := range 32 {
		row := begin(true, 1) + plainRow(lits('a')...) + plainLits.coded(284) + number(more, 5) + plainFars.coded(0) + plainEnd
		b := packed(row, 0)
		everyWay(t, "284", b, 1, 1000)
		if got, err := swell.All(b, 1, 1000); err != api.OK || string(got) != strings.Repeat("a", 1+227+more) {
			t.Errorf("more bits %d: %d bytes, %v", more, len(got), err)
		}
	}
	row := begin(true, 1) + plainRow(lits('a')...) + plainLits.coded(285) + plainFars.coded(0) + plainEnd
	if got, err := swell.All(packed(row, 0), 1, 1000); err != api.OK || len(got) != 259 {
		t.Errorf("285: %d bytes, %v", len(got), err)
	}
}

func TestAllLengthsAndDistances(t *testing.T) {
	r := rolls(52)
	data := r.bytes(33000, 256)
	for _, l := range [][2]int{{3, 258}, {1, 32768}} {
		for v := l[0]; v <= l[1]; v += 1 + v/40 {
			token := match(3+v%256, v)
			if l[1] == 258 {
				token = match(v, 1+v%300)
			}
			var w bits.Writer
			block.Write(&w, block.Stored, false, data[:33000], lits(data...)...)
			block.Write(&w, block.Plain, true, data[:token.Len], token)
			want := grown(data, token)
			if got, err := swell.All(w.Bytes(), token.Dist, len(want)); err != api.OK || !bytes.Equal(got, want) {
				t.Errorf("%+v: %d bytes, %v", token, len(got), err)
			}
		}
	}
}

// A match is cut by most, and goes on in the next Step, without a byte of p.
func TestMatchIsCut(t *testing.T) {
	row := begin(true, 1) + plainRow(lits('a', 'b', 'c')...) + plainRow(match(200, 2)) + plainRow(lits('d')...) + plainEnd
	b := packed(row, 0)
	want := grown(nil, slices.Concat(lits('a', 'b', 'c'), []api.Token{match(200, 2)}, lits('d'))...)
	for most := 1; most < 210; most++ {
		s := made(t, 2, 204)
		rest := b
		var got []byte
		for !s.Done() {
			out, n, err := s.Step(rest, most)
			if err != api.OK || len(out) > most {
				t.Fatalf("for %d: %d bytes, %v", most, len(out), err)
			}
			if len(got) > 3 && len(got)+len(out) < 203 && n > 0 {
				t.Errorf("for %d: a byte was taken within the match", most)
			}
			got, rest = append(got, out...), rest[n:]
		}
		if !bytes.Equal(got, want) || len(rest) > 0 {
			t.Errorf("for %d: %q", most, got)
		}
	}
	everyWay(t, "a match is cut", b, 2, 204)
	// Without a byte to take the match's bytes come all the same.
	s := made(t, 2, 204)
	answers(t, "into the match", s, string(b), 5, "abcbc", len(b)-2, api.OK)
	for i := range 198 {
		answers(t, "one more", s, "", 1, string(want[5+i]), 0, api.OK)
	}
	answers(t, "nothing more", s, "", 1, "", 0, api.OK)
}

// How many bytes were taken: each only when it is needed.
func TestTakenOnlyWhenNeeded(t *testing.T) {
	// Bytes of eight bits behind three of the begin: each needs one byte more.
	row := begin(true, 1) + plainRow(lits('a', 'b', 'c', 'd')...) + plainEnd
	b := string(packed(row, 0))
	for n := 1; n <= 4; n++ {
		s := made(t, 1, 100)
		answers(t, "bytes", s, b, n, "abcd"[:n], n+1, api.OK)
	}
	// Of nine bits: the fifth one ends with a byte's last bit, the sixth one with the next one's first.
	row = begin(true, 1) + plainRow(lits(200, 200, 200, 200, 200, 200)...) + plainEnd
	b = string(packed(row, 0))
	for n := 1; n <= 6; n++ {
		s := made(t, 1, 100)
		answers(t, "bytes of nine bits", s, b, n, strings.Repeat("\xc8", n), (3+9*n+7)/8, api.OK)
	}
	// A stored byte: no byte of what is behind it.
	s := made(t, 1, 100)
	answers(t, "stored", s, "\x00\x03\x00\xfc\xffabc\x03\x00", 2, "ab", 7, api.OK)
	answers(t, "stored", s, "c\x03\x00", 1, "c", 1, api.OK)
	answers(t, "stored", s, "\x03\x00", 1, "", 2, api.OK)
	// A match's bytes come with the distance's last bit.
	row = begin(true, 1) + plainRow(lits('a')...) + plainRow(match(3, 1))
	b = string(packed(row+plainEnd, 0))
	s = made(t, 1, 100)
	answers(t, "a match", s, b, 2, "aa", (len(row)+7)/8, api.OK)
}

// P11.10

func TestNoByteBehindTheEnd(t *testing.T) {
	r := rolls(53)
	for name, row := range streams() {
		b := packed(row, 1)
		for _, behind := range []string{"\x00", "\xff", "\x03\x00", string(b), string(r.bytes(300, 256))} {
			all := slices.Concat(b, []byte(behind))
			everyWay(t, name, all, 300, 1<<28)
			s := made(t, 300, 1<<28)
			if _, n, err := s.Step(all, plenty); n != len(b) || err != api.OK || !s.Done() {
				t.Errorf("%s: %d of %d bytes were taken, %v", name, n, len(b), err)
			}
			total := s.Total()
			for _, most := range []int{0, 1, plenty} {
				answers(t, "behind the end", s, behind, most, "", 0, api.OK)
				stands(t, "behind the end", s, true, total, api.OK)
			}
			if got, err := swell.All(all, 300, 1<<28); len(got) != 0 || err != api.ErrSwellForm {
				t.Errorf("%s: All: %d bytes, %v", name, len(got), err)
			}
		}
	}
}

// Streams that end in each of a block's parts.
func TestStreamsThatEndTooEarly(t *testing.T) {
	rows := streams()
	l := ordinary()
	for shift := range 8 {
		first, ahead := moved(shift)
		data := grown(ahead, l...)[len(ahead):]
		for _, k := range kinds {
			rows["behind "+number(shift, 3)+", "+number(int(k), 2)] = written(first, k, true, data, l...)
		}
	}
	for name, row := range rows {
		b := packed(row, 1)
		for n := range b {
			if got, err := swell.All(b[:n], 300, 1<<28); len(got) != 0 || err != api.ErrSwellEnd {
				t.Fatalf("%s, %d bytes: %x, %v", name, n, got, err)
			}
			s := made(t, 300, 1<<28)
			if _, taken, err := s.Step(b[:n], plenty); taken != n || err != api.OK || s.Done() || s.End() != api.ErrSwellEnd {
				t.Fatalf("%s, %d bytes: %d, %v, %v", name, n, taken, err, s.End())
			}
		}
	}
}

// The cap

func TestCaps(t *testing.T) {
	l := ordinary()
	data := grown(nil, l...)
	for _, k := range kinds {
		b := packed(written("", k, true, data, l...), 1)
		for limit := range len(data) + 2 {
			got, err := swell.All(b, 300, limit)
			if limit < len(data) && (len(got) != 0 || err != api.ErrSwellLong) || limit >= len(data) && (!bytes.Equal(got, data) || err != api.OK) {
				t.Errorf("kind %d, cap %d: %d bytes, %v", k, limit, len(got), err)
			}
			if limit < 30 || limit > len(data)-10 || limit%50 == 0 {
				everyWay(t, "caps", b, 300, limit)
			}
		}
	}
}

// Total is the cap: the end may still come, and whatever brings no byte; a byte may not.
func TestTotalIsTheCap(t *testing.T) {
	full := plainBlock(false, lits('a', 'b', 'c')...)
	none := written(full, block.Own, false, nil)
	none = written(none, block.Stored, false, nil)
	for i, c := range []struct {
		row string
		err api.Errno
	}{
		{plainBlock(true, lits('a', 'b', 'c')...), api.OK},
		{full + plainBlock(true), api.OK},
		{written(none, block.Stored, true, nil), api.OK},
		{written(none, block.Own, true, nil), api.OK},
		{full + begin(true, 1) + plainRow(lits('d')...), api.ErrSwellLong},
		{none + begin(true, 1) + plainRow(match(3, 1)), api.ErrSwellLong},
		{none + storedBlock(len(none), true, 0, 'd'), api.ErrSwellLong},
	} {
		b := packed(c.row, 0)
		s := made(t, 3, 3)
		got, n, err := s.Step(b, 3)
		if string(got) != "abc" || err != api.OK {
			t.Fatalf("row %d: %q, %v", i, got, err)
		}
		stands(t, "full", s, false, 3, api.ErrSwellEnd)
		rest := b[n:]
		if c.err != api.OK {
			// All but the last byte bring nothing.
			answers(t, "all but one", s, string(rest[:len(rest)-1]), 9, "", len(rest)-1, api.OK)
			stands(t, "all but one", s, false, 3, api.ErrSwellEnd)
			rest = rest[len(rest)-1:]
			answers(t, "most 0", s, string(rest), 0, "", 0, api.OK)
			answers(t, "too much", s, string(rest), 1, "", 0, c.err)
			stands(t, "too much", s, false, 3, c.err)
		} else {
			answers(t, "the end", s, string(rest), 1, "", len(rest), api.OK)
			stands(t, "the end", s, true, 3, api.OK)
		}
		everyWay(t, "full", b, 3, 3)
	}
}

// A match that goes beyond the cap: its bytes come up to there, as long as no more are asked for.
func TestMatchBeyondTheCap(t *testing.T) {
	row := begin(true, 1) + plainRow(lits('a')...) + plainRow(match(10, 1)) + plainEnd
	b := string(packed(row, 0))
	for limit := 1; limit <= 11; limit++ {
		s := made(t, 1, limit)
		got, n, err := s.Step([]byte(b), limit)
		if string(got) != strings.Repeat("a", limit) || err != api.OK {
			t.Fatalf("cap %d: %q, %v", limit, got, err)
		}
		if limit == 11 {
			answers(t, "all of it", s, b[n:], 1, "", len(b)-n, api.OK)
			continue
		}
		answers(t, "beyond", s, b[n:], 1, "", 0, api.ErrSwellLong)
		stands(t, "beyond", s, false, limit, api.ErrSwellLong)
		// In one Step: none of them.
		s = made(t, 1, limit)
		answers(t, "at once", s, b, limit+1, "", 0, api.ErrSwellLong)
		stands(t, "at once", s, false, 0, api.ErrSwellLong)
	}
}

// noughts: a stream of so many bytes 0, all but some hundreds of them of matches 258 bytes back.
func noughts(n int) []byte {
	var w bits.Writer
	w.Put(3, 3)
	for ; n%258 != 0 || w.Len() < 8*258; n-- {
		w.Turned(0x30, 8)
	}
	for ; n > 0; n -= 258 {
		w.Turned(0xc5, 8) // 285
		w.Turned(16, 5)   // from 257 on
		w.Put(1, 7)
	}
	w.Put(0, 7)
	return w.Bytes()
}

func TestGreatestCap(t *testing.T) {
	s := made(t, 258, 1<<28)
	for _, more := range []int{0, 1} {
		s.Reset(258, 1<<28)
		err := api.OK
		for rest := noughts(1<<28 + more); !s.Done() && err == api.OK; {
			var out []byte
			var n int
			// So many that the cap is reached with the end of a Step.
			out, n, err = s.Step(rest[:min(len(rest), 100000)], 1<<20)
			if bytes.Count(out, []byte{0}) != len(out) {
				t.Fatal("another byte")
			}
			rest = rest[n:]
		}
		if more == 0 {
			stands(t, "just the cap", s, true, 1<<28, api.OK)
		} else {
			stands(t, "more than the cap", s, false, 1<<28, api.ErrSwellLong)
		}
	}
}
