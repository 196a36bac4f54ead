package swell_test

import (
	"bytes"
	"maps"
	"math"
	"runtime"
	"slices"
	"testing"

	"sapper/api"
	"sapper/block"
	"sapper/code"
	"sapper/head"
	"sapper/press"
	"sapper/ring"
	"sapper/swell"
)

// made: by New, which may not refuse.
func made(t *testing.T, window, most int) *swell.Swell {
	t.Helper()
	s, err := swell.New(window, most)
	if err != api.OK || s == nil {
		t.Fatalf("New(%d, %d): %v", window, most, err)
	}
	return s
}

// answers: that a Step answers just this.
func answers(t *testing.T, what string, s *swell.Swell, p string, most int, want string, wantTaken int, wantErr api.Errno) {
	t.Helper()
	if got, taken, err := s.Step([]byte(p), most); string(got) != want || taken != wantTaken || err != wantErr {
		t.Errorf("%s: %q, %d, %v; not %q, %d, %v", what, got, taken, err, want, wantTaken, wantErr)
	}
}

// stands: what it tells beside Step.
func stands(t *testing.T, what string, s *swell.Swell, done bool, total int, end api.Errno) {
	t.Helper()
	if s.Done() != done || s.Total() != total || s.End() != end {
		t.Errorf("%s: Done %v, Total %d, End %v; not %v, %d, %v", what, s.Done(), s.Total(), s.End(), done, total, end)
	}
}

// The chapter's examples

func TestExampleOfNone(t *testing.T) {
	s := made(t, 100, 10)
	stands(t, "new", s, false, 0, api.ErrSwellEnd)
	answers(t, "03 00", s, "\x03\x00", 5, "", 2, api.OK)
	stands(t, "03 00", s, true, 0, api.OK)
	answers(t, "behind the end", s, "\xff", 5, "", 0, api.OK)
	stands(t, "behind the end", s, true, 0, api.OK)
}

func TestExampleOfOneByte(t *testing.T) {
	s := made(t, 100, 10)
	answers(t, "whole", s, "\x4b\x04\x00", 9, "a", 3, api.OK)
	stands(t, "whole", s, true, 1, api.OK)
	s = made(t, 100, 10)
	answers(t, "most 0", s, "\x4b\x04\x00", 0, "", 0, api.OK)
	stands(t, "most 0", s, false, 0, api.ErrSwellEnd)
	answers(t, "first", s, "\x4b", 9, "", 1, api.OK)
	answers(t, "second", s, "\x04", 9, "a", 1, api.OK)
	stands(t, "second", s, false, 1, api.ErrSwellEnd)
	answers(t, "third", s, "\x00", 9, "", 1, api.OK)
	stands(t, "third", s, true, 1, api.OK)
}

func TestExamplesOfErrors(t *testing.T) {
	s := made(t, 100, 10)
	answers(t, "kind 3", s, "\x07", 5, "", 0, api.ErrSwellForm)
	for _, p := range []string{"", "\x07", "\x03\x00", "any"} {
		answers(t, "behind kind 3", s, p, 5, "", 0, api.ErrSwellForm)
	}
	stands(t, "kind 3", s, false, 0, api.ErrSwellForm)
	s = made(t, 100, 0)
	answers(t, "cap 0", s, "\x4b\x04\x00", 9, "", 0, api.ErrSwellLong)
	stands(t, "cap 0", s, false, 0, api.ErrSwellLong)
	s = made(t, 100, 10)
	answers(t, "a match first", s, "\x03\x02\x00", 9, "", 0, api.ErrSwellFar)
	stands(t, "a match first", s, false, 0, api.ErrSwellFar)
}

// P11.1

func TestNew(t *testing.T) {
	for _, window := range []int{1, 2, 100, 32767, 32768} {
		for _, most := range []int{0, 1, 1000, 1<<28 - 1, 1 << 28} {
			stands(t, "new", made(t, window, most), false, 0, api.ErrSwellEnd)
			if got, err := swell.All([]byte("\x03\x00"), window, most); len(got) != 0 || err != api.OK {
				t.Errorf("All over %d, %d: %x, %v", window, most, got, err)
			}
		}
	}
}

// wrongSizes: windows and caps of which one may not be, where widest is the greatest window.
func wrongSizes(widest int) [][2]int {
	var out [][2]int
	for _, window := range []int{0, -1, widest + 1, 65536, math.MinInt, math.MaxInt} {
		for _, most := range []int{0, 10, 1 << 28, -1, 1<<28 + 1} {
			out = append(out, [2]int{window, most})
		}
	}
	for _, most := range []int{-1, 1<<28 + 1, math.MinInt, math.MaxInt} {
		out = append(out, [2]int{1, most}, [2]int{widest, most})
	}
	return out
}

func TestNewRefusals(t *testing.T) {
	for _, c := range wrongSizes(32768) {
		if s, err := swell.New(c[0], c[1]); s != nil || err != api.ErrSwellSize {
			t.Errorf("New(%d, %d): %v, %v", c[0], c[1], s, err)
		}
		// Ahead of whatever the bytes are.
		for _, p := range []string{"", "\x03\x00", "\x07", "\x4b\x04\x00"} {
			if got, err := swell.All([]byte(p), c[0], c[1]); len(got) != 0 || err != api.ErrSwellSize {
				t.Errorf("All(%x, %d, %d): %x, %v", p, c[0], c[1], got, err)
			}
		}
	}
}

// R5

func TestMadeByNoCall(t *testing.T) {
	for _, s := range []*swell.Swell{nil, {}} {
		for _, most := range []int{0, 1, -1, math.MaxInt} {
			for _, p := range []string{"", "\x03\x00", "\x07"} {
				answers(t, "no call made it", s, p, most, "", 0, api.ErrMade)
			}
		}
		for _, c := range append(wrongSizes(32768), [2]int{1, 0}, [2]int{100, 10}) {
			if err := s.Reset(c[0], c[1]); err != api.ErrMade {
				t.Errorf("Reset(%d, %d): %v", c[0], c[1], err)
			}
		}
		stands(t, "no call made it", s, false, 0, api.ErrMade)
		if s.Room() != 0 {
			t.Errorf("Room %d", s.Room())
		}
	}
}

// P11.2

func TestMostBelowNone(t *testing.T) {
	for _, most := range []int{-1, -2, math.MinInt} {
		s := made(t, 100, 10)
		answers(t, "new", s, "\x4b\x04\x00", most, "", 0, api.ErrArg)
		stands(t, "new", s, false, 0, api.ErrSwellEnd)
		answers(t, "on", s, "\x4b\x04", 9, "a", 2, api.OK)
		answers(t, "in the middle", s, "\xff\xff", most, "", 0, api.ErrArg)
		stands(t, "in the middle", s, false, 1, api.ErrSwellEnd)
		answers(t, "on", s, "\x00", 9, "", 1, api.OK)
		answers(t, "behind the end", s, "\xff", most, "", 0, api.ErrArg)
		stands(t, "behind the end", s, true, 1, api.OK)
		s = made(t, 100, 10)
		answers(t, "on", s, "\x07", 9, "", 0, api.ErrSwellForm)
		// It stands ahead of the stream's error.
		answers(t, "behind an error", s, "\x07", most, "", 0, api.ErrArg)
		stands(t, "behind an error", s, false, 0, api.ErrSwellForm)
		answers(t, "on", s, "\x03\x00", 9, "", 0, api.ErrSwellForm)
	}
}

func TestMostBeyondAll(t *testing.T) {
	for _, most := range []int{1, 2, 9, math.MaxInt} {
		s := made(t, 100, 10)
		answers(t, "all at once", s, "\x01\x01\x00\xfe\xffa", most, "a", 6, api.OK)
	}
}

func TestNothingToTake(t *testing.T) {
	for _, p := range [][]byte{nil, {}} {
		s := made(t, 100, 10)
		for _, most := range []int{0, 1, 9} {
			if got, taken, err := s.Step(p, most); len(got) != 0 || taken != 0 || err != api.OK {
				t.Errorf("%x, %d, %v", got, taken, err)
			}
		}
		stands(t, "a stream of no bytes", s, false, 0, api.ErrSwellEnd)
		if got, err := swell.All(p, 100, 10); len(got) != 0 || err != api.ErrSwellEnd {
			t.Errorf("All: %x, %v", got, err)
		}
	}
}

// A byte's bits are there: what follows them is not looked at ahead of the next Step.
func TestMostIsReached(t *testing.T) {
	// "ab", and the end, of which all bits are there with the fourth byte.
	b := packed(plainBlock(true, lits('a', 'b')...), 0)
	s := made(t, 100, 10)
	answers(t, "a", s, string(b), 1, "a", 2, api.OK)
	answers(t, "b", s, string(b[2:]), 1, "b", 1, api.OK)
	stands(t, "b", s, false, 2, api.ErrSwellEnd)
	answers(t, "most 0", s, string(b[3:]), 0, "", 0, api.OK)
	answers(t, "the end", s, string(b[3:]), 1, "", 1, api.OK)
	stands(t, "the end", s, true, 2, api.OK)
	// Six bytes of nine bits and one of eight, so that the end's bits are there together with the last byte's last one.
	row := plainBlock(true, lits(200, 200, 200, 200, 200, 200, 'a')...)
	b = packed(row, 1)
	if len(row)%8 != 0 {
		t.Fatalf("%d bits", len(row))
	}
	s = made(t, 100, 10)
	answers(t, "all but the end", s, string(b), 7, "\xc8\xc8\xc8\xc8\xc8\xc8a", len(b), api.OK)
	stands(t, "all but the end", s, false, 7, api.ErrSwellEnd)
	answers(t, "most 0", s, "\xff", 0, "", 0, api.OK)
	stands(t, "most 0", s, false, 7, api.ErrSwellEnd)
	answers(t, "the end", s, "\xff", 1, "", 0, api.OK)
	stands(t, "the end", s, true, 7, api.OK)
}

// P11.2, P11.3: behind an error

// wrongStreams: of each error one, behind a byte that comes out.
func wrongStreams() map[api.Errno]string {
	return map[api.Errno]string{
		api.ErrSwellForm: begin(false, 1) + plainRow(lits('a', 'b', 'c')...) + plainEnd + begin(true, 3),
		api.ErrSwellFar:  begin(true, 1) + plainRow(lits('a', 'b', 'c')...) + plainRow(match(3, 4)),
		api.ErrSwellLong: begin(true, 1) + plainRow(lits('a', 'b', 'c')...) + plainRow(match(8, 1)),
	}
}

func TestErrorsStay(t *testing.T) {
	for want, row := range wrongStreams() {
		b := string(packed(row, 0)) + "\x00\x00"
		// With a Step ahead of it, Total counts what that one told.
		for ahead := range 4 {
			s := made(t, 100, 10)
			got, n, err := s.Step([]byte(b), ahead)
			if len(got) != ahead || err != api.OK {
				t.Fatalf("%v: %q, %v", want, got, err)
			}
			for range 3 {
				for _, p := range []string{b[n:], "", "\x03\x00"} {
					answers(t, "wrong", s, p, 99, "", 0, want)
					answers(t, "wrong, most 0", s, p, 0, "", 0, want)
					stands(t, "wrong", s, false, ahead, want)
				}
			}
			if err := s.Reset(100, 1000); err != api.OK {
				t.Errorf("Reset: %v", err)
			}
			stands(t, "Reset", s, false, 0, api.ErrSwellEnd)
			answers(t, "Reset", s, "\x4b\x04\x00", 9, "a", 3, api.OK)
			stands(t, "Reset", s, true, 1, api.OK)
		}
	}
}

// A Step that tells some bytes ahead of the error tells none, and they are not counted.
func TestErrorBehindBytesOfTheSameStep(t *testing.T) {
	for want, row := range wrongStreams() {
		s := made(t, 100, 10)
		b := packed(row, 0)
		answers(t, "a", s, string(b), 1, "a", 2, api.OK)
		answers(t, "b, c and then", s, string(b[2:]), 99, "", 0, want)
		stands(t, "wrong", s, false, 1, want)
	}
}

// P11.4

func TestResetRefusals(t *testing.T) {
	row := begin(true, 1) + plainRow(lits('a', 'b', 'c')...) + plainRow(match(5, 3)) + plainEnd
	b := packed(row, 0)
	for _, window := range []int{1, 3, 100, 32768} {
		s := made(t, window, 10)
		got, n, _ := s.Step(b, 2)
		for _, c := range wrongSizes(window) {
			if err := s.Reset(c[0], c[1]); err != api.ErrSwellSize {
				t.Errorf("Reset(%d, %d) of %d: %v", c[0], c[1], window, err)
			}
		}
		stands(t, "refused", s, false, len(got), api.ErrSwellEnd)
		// The window, the cap and the stream are as they were.
		if window < 3 {
			answers(t, "on", s, string(b[n:]), 99, "", 0, api.ErrSwellFar)
		} else {
			answers(t, "on", s, string(b[n:]), 99, "cabcab", len(b)-n, api.OK)
		}
	}
	// Behind an error: it stays.
	s := made(t, 100, 10)
	answers(t, "wrong", s, "\x07", 9, "", 0, api.ErrSwellForm)
	if err := s.Reset(101, 10); err != api.ErrSwellSize {
		t.Errorf("Reset: %v", err)
	}
	stands(t, "wrong", s, false, 0, api.ErrSwellForm)
	// Behind the end: it stays, too.
	s = made(t, 100, 10)
	answers(t, "whole", s, "\x4b\x04\x00", 9, "a", 3, api.OK)
	if err := s.Reset(100, -1); err != api.ErrSwellSize {
		t.Errorf("Reset: %v", err)
	}
	stands(t, "whole", s, true, 1, api.OK)
}

// Whatever was done, another stream is told as by a new one.
func TestResetAnywhere(t *testing.T) {
	r := rolls(41)
	rows := streams()
	var all [][]byte
	for _, name := range slices.Sorted(maps.Keys(rows)) {
		all = append(all, packed(rows[name], 1))
	}
	for _, row := range wrongStreams() {
		all = append(all, packed(row, 0))
	}
	for range 30 {
		window := 1 + r.below(400)
		p := newPair(t, "Reset", all[r.below(len(all))], window, r.below(1200))
		for range 12 {
			// Up to any place: the middle, the end, behind it, or an error.
			for range r.below(60) {
				p.step(r.below(20), r.below(40))
			}
			p.again(all[r.below(len(all))], 1+r.below(window), r.below(1200))
		}
		p.through(always(7), always(9))
	}
}

// A window below the ring's holds, as if the ring were no greater; and a greater one may follow.
func TestResetToAnotherWindow(t *testing.T) {
	row := begin(true, 1) + plainRow(lits('a', 'b', 'c', 'd', 'e')...) + plainRow(match(4, 4)) + plainEnd
	b := string(packed(row, 0))
	s := made(t, 5, 100)
	for _, window := range []int{5, 4, 3, 1, 4, 2, 5, 3} {
		if err := s.Reset(window, 100); err != api.OK {
			t.Fatalf("Reset(%d): %v", window, err)
		}
		if window >= 4 {
			answers(t, "within", s, b, 99, "abcdebcde", len(b), api.OK)
			stands(t, "within", s, true, 9, api.OK)
		} else {
			answers(t, "beyond", s, b, 99, "", 0, api.ErrSwellFar)
			stands(t, "beyond", s, false, 0, api.ErrSwellFar)
		}
		if s.Room() != 3840 {
			t.Errorf("Room %d", s.Room())
		}
	}
}

// What stood ahead of Reset is no part of what came out.
func TestResetForgets(t *testing.T) {
	s := made(t, 100, 100)
	answers(t, "a", s, "\x4b\x04\x00", 9, "a", 3, api.OK)
	s.Reset(100, 100)
	answers(t, "a match first", s, "\x03\x02\x00", 9, "", 0, api.ErrSwellFar)
	// In the middle of a byte, of a match, of a stored block and of a head.
	for _, row := range []string{
		begin(false, 1) + plainRow(lits('a')...),
		begin(false, 1) + plainRow(lits('a')...) + plainRow(match(200, 1)),
		storedBlock(0, false, 0, 1, 2, 3, 4, 5, 6, 7, 8, 9, 10, 11, 12, 13),
		begin(false, 2) + looseHead(lensWith(257, map[int]int{'a': 1, 256: 1}), []int{0}),
	} {
		b := packed(row, 0)
		for n := range len(b) {
			for _, last := range []string{"\x4b\x04\x00", string(packed(written("", block.Own, true, []byte("a"), lits('a')...), 1))} {
				s := made(t, 100, 100)
				s.Step(b[:n], 5)
				s.Reset(7, 1)
				answers(t, "anew", s, last, 9, "a", len(last), api.OK)
				stands(t, "anew", s, true, 1, api.OK)
			}
		}
	}
}

func TestResetToAnotherCap(t *testing.T) {
	s := made(t, 100, 0)
	for _, most := range []int{0, 1, 0, 5, 1 << 28, 0, 2} {
		if err := s.Reset(100, most); err != api.OK {
			t.Fatalf("Reset(%d): %v", most, err)
		}
		if most == 0 {
			answers(t, "cap 0", s, "\x4b\x04\x00", 9, "", 0, api.ErrSwellLong)
		} else {
			answers(t, "a", s, "\x4b\x04\x00", 9, "a", 3, api.OK)
		}
	}
}

// P11.5, P11.9

func TestRoom(t *testing.T) {
	lit, _ := code.NewDecoder(288)
	dist, _ := code.NewDecoder(32)
	for _, window := range []int{1, 2, 100, 32767, 32768} {
		back, _ := ring.New(window)
		want := lit.Room() + dist.Room() + back.Room() + head.New().Room() + 16
		for _, most := range []int{0, 1, 1 << 28} {
			if got := made(t, window, most).Room(); got != want || got != 3835+window {
				t.Errorf("%d, %d: Room %d, not %d", window, most, got, want)
			}
		}
	}
	// pair looks at Room behind each call: through streams, errors and Resets.
}

// R8: what it holds does not grow, whatever goes through.
func TestRoomDoesNotGrow(t *testing.T) {
	r := rolls(42)
	data := r.bytes(200000, 8)
	b, _ := press.Press(data, api.Press{Look: api.Look{Window: 32768, Chain: 4}, Block: 3000})
	s := made(t, 32768, 1<<28)
	held := func() int {
		var m runtime.MemStats
		runtime.GC()
		runtime.ReadMemStats(&m)
		return int(m.HeapAlloc)
	}
	before := held()
	for range 20 {
		s.Reset(32768, 1<<28)
		for p := b; !s.Done(); {
			_, n, err := s.Step(p[:min(len(p), 5000)], 4000)
			if err != api.OK {
				t.Fatal(err)
			}
			p = p[n:]
		}
	}
	if grew := held() - before; grew > 50000 {
		t.Errorf("it holds %d bytes more", grew)
	}
	runtime.KeepAlive(s)
	runtime.KeepAlive(b)
}

// P11.6

func TestAllExamples(t *testing.T) {
	for _, c := range []struct {
		p, want string
		err     api.Errno
	}{
		{"\x03\x00", "", api.OK},
		{"\x4b\x04\x00", "a", api.OK},
		{"\x01\x01\x00\xfe\xffa", "a", api.OK},
		{"\x03\x00\x00", "", api.ErrSwellForm},
		{"\x4b\x04\x00\x00", "", api.ErrSwellForm},
		{"\x03", "", api.ErrSwellEnd},
		{"", "", api.ErrSwellEnd},
		{"\x07", "", api.ErrSwellForm},
		{"\x03\x02\x00", "", api.ErrSwellFar},
		{"\x03\x02", "", api.ErrSwellFar},
	} {
		if got, err := swell.All([]byte(c.p), 100, 10); string(got) != c.want || err != c.err {
			t.Errorf("%x: %q, %v", c.p, got, err)
		}
	}
	if got, err := swell.All([]byte("\x4b\x04\x00"), 100, 0); len(got) != 0 || err != api.ErrSwellLong {
		t.Errorf("cap 0: %q, %v", got, err)
	}
	if got, err := swell.All([]byte("\x4b\x04\x00\xff"), 100, 0); len(got) != 0 || err != api.ErrSwellLong {
		t.Errorf("cap 0, and a byte behind: %q, %v", got, err)
	}
}

// R3

func TestArgumentsStay(t *testing.T) {
	for name, row := range streams() {
		b := packed(row, 1)
		room := append(slices.Clone(b), "behind its end"...)
		kept := slices.Clone(room)
		swell.All(room[:len(b)], 300, 10000)
		s := made(t, 300, 10000)
		for p := room[:len(b)]; !s.Done(); {
			_, n, _ := s.Step(p, 13)
			p = p[n:]
		}
		if !bytes.Equal(room, kept) {
			t.Errorf("%s: what was handed in has changed", name)
		}
	}
}

// The caller writes over what was handed in, and over what was answered, and appends to it.
func TestMemoryIsTheCallersOwn(t *testing.T) {
	for name, row := range streams() {
		b := packed(row, 1)
		want, err := swell.All(b, 300, 10000)
		if err != api.OK {
			t.Fatalf("%s: %v", name, err)
		}
		for _, most := range []int{1, 5, 100, 10000} {
			s := made(t, 300, 10000)
			var got []byte
			for rest := b; !s.Done(); {
				p := slices.Clone(rest[:min(len(rest), 3)])
				out, n, _ := s.Step(p, most)
				rest = rest[n:]
				got = append(got, out...)
				for i := range p {
					p[i] ^= 0xff
				}
				out = append(out, 1, 2, 3)
				for i := range out[:cap(out)] {
					out[:cap(out)][i] ^= 0xff
				}
			}
			if !bytes.Equal(got, want) {
				t.Errorf("%s, for %d: other bytes", name, most)
			}
		}
	}
}

func TestAnswersStay(t *testing.T) {
	for name, row := range streams() {
		b := packed(row, 1)
		s := made(t, 300, 10000)
		var answered, kept [][]byte
		for rest := b; !s.Done(); {
			out, n, _ := s.Step(rest[:min(len(rest), 2)], 50)
			rest = rest[n:]
			answered, kept = append(answered, out), append(kept, slices.Clone(out))
		}
		s.Reset(300, 10000)
		s.Step(b, 10000)
		for i := range kept {
			if !bytes.Equal(answered[i], kept[i]) {
				t.Errorf("%s: answer %d has changed", name, i)
			}
		}
	}
}

// R4

func TestTwoBesideEachOther(t *testing.T) {
	r := rolls(43)
	rows := streams()
	names := slices.Sorted(maps.Keys(rows))
	for range 40 {
		var pairs []*pair
		for range 3 {
			name := names[r.below(len(names))]
			pairs = append(pairs, newPair(t, name, packed(rows[name], 1), 300, 900+r.below(300)))
		}
		for range 400 {
			pairs[r.below(len(pairs))].step(r.below(9), r.below(30))
		}
		for _, p := range pairs {
			p.through(always(100), always(100))
		}
	}
}

func TestTheSameEachTime(t *testing.T) {
	for name, row := range streams() {
		b := packed(row, 1)
		roomy := append(make([]byte, 0, 9000), b...)
		want, err := swell.All(b, 300, 10000)
		for range 3 {
			if got, again := swell.All(roomy, 300, 10000); !bytes.Equal(got, want) || err != again {
				t.Errorf("%s: other bytes", name)
			}
		}
	}
}
