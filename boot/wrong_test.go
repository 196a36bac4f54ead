package boot_test

import (
	"slices"
	"testing"

	"sapper/api"
	"sapper/boot"
	"sapper/flash"
)

// The chapter's list of functions.
var (
	_ func(api.Record) api.Errno                               = boot.Check
	_ func(api.Record) ([]byte, api.Errno)                     = boot.Encode
	_ func([]byte) (api.Record, api.Errno)                     = boot.Decode
	_ func(*flash.Flash) (api.Record, int, api.Errno)          = boot.Read
	_ func(*flash.Flash, api.Record) (api.Record, api.Errno)   = boot.Write
	_ func(api.Image) (api.Record, api.Errno)                  = boot.First
	_ func(api.Record, api.Image, int) (api.Record, api.Errno) = boot.Offer
	_ func(api.Record) (api.Record, api.Image, api.Errno)      = boot.Start
	_ func(api.Record) (api.Record, api.Errno)                 = boot.Confirm
	_ func(*flash.Flash) ([]api.Record, api.Errno)             = boot.History
)

// expectFlashError: what Read, History and Write answer of a flash that does not work.
func expectFlashError(t *testing.T, name string, f *flash.Flash, want api.Errno) {
	t.Helper()
	if r, page, err := boot.Read(f); r != (api.Record{}) || page != 0 || err != want {
		t.Errorf("%s: Read: %v, %d, %v", name, r, page, err)
	}
	if l, err := boot.History(f); len(l) != 0 || err != want {
		t.Errorf("%s: History: %v, %v", name, l, err)
	}
	for _, r := range []api.Record{plain(), trial(), {}, {Seq: topSeq + 1}} {
		x, err := boot.Write(f, r)
		expectRecord(t, name+": Write", x, err, api.Record{}, want)
	}
}

// R5: a flash that no call made, nil and zero, at each of the functions that take one, over and over.
func TestUnmade(t *testing.T) {
	for name, f := range map[string]*flash.Flash{"nil": nil, "zero": {}, "zero by new": new(flash.Flash)} {
		for range 2 {
			expectFlashError(t, name, f, api.ErrMade)
			if f != nil {
				f.Power()
			}
		}
		if f.Ops() != 0 || f.Shape() != (api.Shape{}) {
			t.Errorf("%s: it has changed", name)
		}
	}
}

// P25.2, P25.3, P25.11: without power: ErrFlashPower, and nothing is done; behind it all is as it was.
func TestWithoutPower(t *testing.T) {
	one, b := numbered(1, 1)
	two, c := numbered(2, 2)
	for name, f := range map[string]*flash.Flash{"none": with(t, nil, nil), "one": with(t, b, nil), "two": with(t, b, c)} {
		off(t, f)
		was := toldOf(f)
		expectFlashError(t, name, f, api.ErrFlashPower)
		if toldOf(f) != was {
			t.Errorf("%s: %s has become %s", name, was, toldOf(f))
		}
		f.Power()
		switch name {
		case "none":
			expectRead(t, name, f, api.Record{}, 0, api.ErrBootNone)
		case "one":
			expectRead(t, name, f, one, 0, api.OK, one)
		case "two":
			expectRead(t, name, f, two, 1, api.OK, one, two)
		}
	}
}

// P25.1: no bytes, nil and empty.
func TestNoBytes(t *testing.T) {
	for _, b := range [][]byte{nil, {}, make([]byte, 0, 99), mustEncode(t, plain())[:0]} {
		expectDecode(t, "none", b, api.Record{}, api.ErrBootRecord)
	}
}

// The errors' numbers, as the chapter has them.
func TestErrors(t *testing.T) {
	_, record := boot.First(api.Image{})
	_, _, none := boot.Read(mustFlash(t, 64, 1))
	_, old := boot.Offer(plain(), image(1, 0, 5, 9), 3)
	_, phase := boot.Confirm(plain())
	_, arg := boot.Offer(plain(), image(1, 1, 5, 9), 0)
	_, made := boot.History(nil)
	for want, err := range map[int]api.Errno{250: record, 251: none, 252: old, 253: phase, 1: arg, 2: made} {
		if int(err) != want {
			t.Errorf("%d, not %d", int(err), want)
		}
	}
}

// R3: bytes that are handed to Decode stay as they were, with the room behind them, and may be written over behind it.
func TestMemoryHandedIn(t *testing.T) {
	r := rolls(15)
	for range 2000 {
		b := r.front(1)
		want, wantErr := modelDecode(b)
		given, same := lent(b)
		got, err := boot.Decode(given)
		if !same() {
			t.Fatal("what was handed in has changed")
		}
		spoil(given, 255)
		expectRecord(t, "Decode", got, err, want, wantErr)
	}
}

// R3: what Encode and History answer is new memory each time, its spare room, too; no writing over it reaches the flash, or another answer.
func TestMemoryOfAnswers(t *testing.T) {
	one, b := numbered(1, 1)
	two, c := numbered(2, 2)
	f := with(t, b, c)
	was := toldOf(f)
	x, y := mustEncode(t, one), mustEncode(t, one)
	l, err := boot.History(f)
	ok(t, err)
	m, err := boot.History(f)
	ok(t, err)
	spoil(x, 0)
	spoil(l, api.Record{Seq: 9})
	if !slices.Equal(y, b) || !slices.Equal(m, []api.Record{one, two}) || !slices.Equal(mustEncode(t, one), b) || toldOf(f) != was {
		t.Error("an answer shares memory")
	}
	expectRead(t, "behind it", f, two, 1, api.OK, one, two)
	// And what is done later does not reach an answer.
	_, err = boot.Write(f, plain())
	ok(t, err)
	if !slices.Equal(m, []api.Record{one, two}) {
		t.Error("an answer has changed")
	}
}

// R1: a flash that is written over with another one, with none, or with a zero one: each call ends, and answers by what is there.
func TestFlashWrittenOver(t *testing.T) {
	_, b := numbered(5, 1)
	f := with(t, b, nil)
	*f = flash.Flash{}
	expectFlashError(t, "zero", f, api.ErrMade)
	*f = *with(t, nil, b)
	expectWrite(t, "another one", f, trial(), 0, 6)
}

// R4: two flashes know nothing of each other; several at one time, each against the chapter's words.
func TestAtOneTime(t *testing.T) {
	done := make(chan bool)
	for i := range 8 {
		go func() {
			r := rolls(100 + i)
			f, _ := flash.New(api.Shape{Page: 64 + i, Pages: 1}, 0, [2][]byte{})
			g, _ := flash.New(api.Shape{Page: 64 + i, Pages: 1}, 0, [2][]byte{})
			right := true
			for range 500 {
				x := r.any()
				got, err := boot.Write(f, x)
				want, wantErr := modelWrite(g, x)
				l, _ := boot.History(f)
				m, _ := modelHistory(g)
				right = right && got == want && err == wantErr && slices.Equal(l, m)
			}
			done <- right && toldOf(f) == toldOf(g)
		}()
	}
	for range 8 {
		if !<-done {
			t.Error("another answer")
		}
	}
}
