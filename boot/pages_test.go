package boot_test

import (
	"bytes"
	"slices"
	"testing"

	"sapper/api"
	"sapper/boot"
	"sapper/flash"
)

// numbered: the bytes of a record that may be, with this Seq; what it says of an image hangs on who asks for it, too.
func numbered(seq, who int) (api.Record, []byte) {
	r := api.Record{Seq: seq, Good: image(who%2, 1+who, 10*who, uint32(seq))}
	return r, modelEncode(r)
}

// none: ways in which a page begins with no record.
func none() map[string][]byte {
	r, b := numbered(9, 3)
	r.Good.Version = 0
	late := append([]byte{255}, b...)
	spoilt := slices.Clone(b)
	spoilt[20] ^= 4
	return map[string][]byte{"as New leaves it": nil, "no bytes": {}, "all but a byte": b[:42], "a byte too late": late, "a bit turned": spoilt, "one that may not be": modelEncode(r), "the magic alone": b[:4], "noughts": make([]byte, 64)}
}

// expectRead: what Read and History say of a flash, and that they leave it as it is.
func expectRead(t *testing.T, name string, f *flash.Flash, want api.Record, page int, wantErr api.Errno, l ...api.Record) {
	t.Helper()
	was := toldOf(f)
	r, at, err := boot.Read(f)
	if r != want || at != page || err != wantErr {
		t.Errorf("%s: Read: %v, %d, %v, not %v, %d, %v", name, r, at, err, want, page, wantErr)
	}
	all, err := boot.History(f)
	if wantErr == api.ErrBootNone {
		wantErr = api.OK
	}
	if !slices.Equal(all, l) || err != wantErr {
		t.Errorf("%s: History: %v, %v, not %v, %v", name, all, err, l, wantErr)
	}
	if toldOf(f) != was {
		t.Errorf("%s: %s has become %s", name, was, toldOf(f))
	}
}

// P25.2, P25.11: no record, in all ways, and one on either page.
func TestReadNoneAndOne(t *testing.T) {
	for name, b := range none() {
		for other, c := range none() {
			expectRead(t, name+", "+other, with(t, b, c), api.Record{}, 0, api.ErrBootNone)
		}
		for _, seq := range []int{1, 2, 1000, topSeq} {
			r, c := numbered(seq, 1)
			expectRead(t, "on page 0, "+name, with(t, c, b), r, 0, api.OK, r)
			expectRead(t, "on page 1, "+name, with(t, b, c), r, 1, api.OK, r)
		}
	}
}

// P25.2, P25.11: a record on each page, the lesser one on either, and both with the same Seq, alike and not.
func TestReadBoth(t *testing.T) {
	for _, low := range []int{1, 2, 255, 256, 1 << 32, topSeq - 1, topSeq} {
		for _, high := range []int{1, 2, 3, 255, 256, 257, 1 << 32, 1<<32 + 1, topSeq - 1, topSeq} {
			for _, who := range [][2]int{{1, 2}, {2, 1}, {5, 5}} {
				r, b := numbered(low, who[0])
				x, c := numbered(high, who[1])
				switch {
				case low < high:
					expectRead(t, "the lesser one on page 0", with(t, b, c), x, 1, api.OK, r, x)
					expectRead(t, "the lesser one on page 1", with(t, c, b), x, 0, api.OK, r, x)
				case low == high:
					expectRead(t, "the same Seq", with(t, b, c), r, 0, api.OK, r, x)
				}
			}
		}
	}
}

// P25.2, P25.11: a page that is torn: the other one is told, whichever Seq the torn one had.
func TestReadTorn(t *testing.T) {
	for _, seqs := range [][2]int{{1, 2}, {2, 1}, {2, 2}} {
		for page := range 2 {
			for n := range 44 {
				for _, kind := range []int{1, 2} {
					var l [2]api.Record
					var b [2][]byte
					for i := range l {
						l[i], b[i] = numbered(seqs[i], i+1)
					}
					f := with(t, b[0], b[1])
					ok(t, f.Cut(kind, b[page][:n]))
					err := f.Erase(2, page)
					if err == api.OK {
						err = f.Program(2, page, b[page])
					}
					expect(t, "what is cut", err, api.ErrFlashPower)
					expectRead(t, "without power", f, api.Record{}, 0, api.ErrFlashPower)
					f.Power()
					whole := kind == 1 || n == 43
					if !whole {
						expectRead(t, "torn", f, l[1-page], 1-page, api.OK, l[1-page])
						continue
					}
					newest, elder := 0, 1
					if seqs[1] > seqs[0] {
						newest, elder = 1, 0
					}
					want := []api.Record{l[elder], l[newest]}
					if seqs[0] == seqs[1] {
						want = l[:]
					}
					expectRead(t, "whole behind the cut", f, l[newest], newest, api.OK, want...)
				}
			}
		}
	}
}

// P25.2, P25.3, P25.11: each page size: the second page is where its first byte is.
func TestPageSizes(t *testing.T) {
	for _, size := range []int{64, 65, 100, 129, 4095, 4096} {
		f := mustFlash(t, size, 2)
		var all []api.Record
		for n := range 5 {
			r, err := boot.Write(f, trial())
			ok(t, err)
			all = append(all, r)
			expectRead(t, "behind a Write", f, r, n%2, api.OK, all[max(0, n-1):]...)
			if got := pageOf(t, f, n%2); !bytes.Equal(got, filled(modelEncode(r), size)) {
				t.Errorf("% x", got)
			}
		}
	}
}

// The chapter's example 5.
func TestExampleOfWrites(t *testing.T) {
	f := mustFlash(t, 64, 2)
	one, err := boot.Write(f, plain())
	expectRecord(t, "Write", one, err, plain(), api.OK)
	expectRead(t, "one", f, one, 0, api.OK, one)
	two, err := boot.Write(f, plain())
	want := plain()
	want.Seq = 2
	expectRecord(t, "Write", two, err, want, api.OK)
	expectRead(t, "two", f, two, 1, api.OK, one, two)
	ok(t, f.Cut(2, nil))
	r, err := boot.Write(f, plain())
	expectRecord(t, "Write", r, err, api.Record{}, api.ErrFlashPower)
	f.Power()
	expectRead(t, "behind the cut", f, two, 1, api.OK, two)
}

// expectWrite: a Write, which goes through: onto that page, with that Seq; the other page stays.
func expectWrite(t *testing.T, name string, f *flash.Flash, r api.Record, page, seq int) {
	t.Helper()
	ops, kept := f.Ops(), pageOf(t, f, 1-page)
	want := r
	want.Seq = seq
	got, err := boot.Write(f, r)
	expectRecord(t, name, got, err, want, api.OK)
	if done := f.Log()[ops:]; !slices.Equal(done, opsOf(1, page, 2, page)) {
		t.Errorf("%s: %v", name, done)
	}
	if b := pageOf(t, f, page); !bytes.Equal(b, filled(modelEncode(want), f.Shape().Page)) {
		t.Errorf("%s: % x on page %d", name, b, page)
	}
	if b := pageOf(t, f, 1-page); !bytes.Equal(b, kept) {
		t.Errorf("%s: page %d has become % x", name, 1-page, b)
	}
}

// P25.3: over no record, in all ways: Seq 1 on page 0.
func TestWriteOverNone(t *testing.T) {
	for name, b := range none() {
		for other, c := range none() {
			expectWrite(t, name+", "+other, with(t, b, c), trial(), 0, 1)
		}
	}
}

// P25.3: over one record on either page, and over two: one more than the greater Seq, on the other page than that.
func TestWriteOver(t *testing.T) {
	for name, b := range none() {
		for _, seq := range []int{1, 2, 255, 1 << 32, topSeq - 1} {
			_, c := numbered(seq, 1)
			expectWrite(t, "one on page 0, "+name, with(t, c, b), trial(), 1, seq+1)
			expectWrite(t, "one on page 1, "+name, with(t, b, c), plain(), 0, seq+1)
		}
	}
	for _, low := range []int{1, 2, 3, 1 << 32, topSeq - 2} {
		for _, high := range []int{1, 2, 3, 4, 1<<32 + 1, topSeq - 1} {
			_, b := numbered(low, 1)
			_, c := numbered(high, 2)
			if low >= high {
				// Of the same Seq that of page 0 is told, and page 1 is written.
				expectWrite(t, "the greater one on page 0", with(t, b, c), trial(), 1, low+1)
			}
			if low < high {
				expectWrite(t, "the greater one on page 1", with(t, b, c), trial(), 0, high+1)
			}
		}
	}
}

// P25.3: r's own Seq is not looked at, whatever it is.
func TestWriteOwnSeq(t *testing.T) {
	r := rolls(6)
	for range 300 {
		x := trial()
		x.Seq = r.edge()
		expectWrite(t, "over none", with(t, nil, nil), x, 0, 1)
		_, b := numbered(7, 1)
		expectWrite(t, "over one", with(t, b, nil), x, 1, 8)
		expectWrite(t, "over one on page 1", with(t, nil, b), x, 0, 8)
	}
}

// expectRefused: a Write that is refused with an error, ahead of any operation.
func expectRefused(t *testing.T, name string, f *flash.Flash, r api.Record, want api.Errno) {
	t.Helper()
	was := toldOf(f)
	got, err := boot.Write(f, r)
	expectRecord(t, name, got, err, api.Record{}, want)
	if toldOf(f) != was {
		t.Errorf("%s: %s has become %s", name, was, toldOf(f))
	}
}

// P25.3: a Seq that would pass 2^60, wherever the greater one stands.
func TestWriteBeyondTheLastSeq(t *testing.T) {
	_, top := numbered(topSeq, 1)
	_, low := numbered(topSeq-1, 2)
	for name, f := range map[string]*flash.Flash{"on page 0": with(t, top, nil), "on page 1": with(t, nil, top), "both": with(t, top, top), "with a lesser one": with(t, top, low), "with a lesser one ahead": with(t, low, top)} {
		for _, r := range []api.Record{plain(), trial(), {}} {
			expectRefused(t, name, f, r, api.ErrBootRecord)
		}
	}
	f := with(t, low, nil)
	expectWrite(t, "the last one", f, trial(), 1, topSeq)
	expectRefused(t, "behind the last one", f, trial(), api.ErrBootRecord)
}

// P25.3: an r that may not be with the Seq that it gets: ErrBootRecord ahead of anything that the flash does, also where the flash would refuse.
func TestWriteMayNotBe(t *testing.T) {
	_, one := numbered(1, 1)
	_, two := numbered(2, 2)
	worn, cut := with(t, one, two), with(t, one, two)
	ok(t, worn.Limit(1), cut.Cut(1, nil))
	for _, c := range edges() {
		x := c.r
		x.Seq = 3
		if modelMay(x) {
			continue
		}
		for name, f := range map[string]*flash.Flash{"over none": with(t, nil, nil), "over one": with(t, one, nil), "over two": with(t, one, two), "worn": worn, "cut": cut} {
			expectRefused(t, name+", "+c.name, f, c.r, api.ErrBootRecord)
		}
	}
	// The flash's errors of reading come ahead of it.
	dark := with(t, one, two)
	off(t, dark)
	expectRefused(t, "without power", dark, api.Record{}, api.ErrFlashPower)
	expectRefused(t, "without power", dark, plain(), api.ErrFlashPower)
}

// P25.3: a page that may not be erased any more: nothing is done, and what Read tells stays.
func TestWriteWorn(t *testing.T) {
	one, b := numbered(1, 1)
	two, c := numbered(2, 2)
	f := with(t, b, c)
	ok(t, f.Limit(1))
	expectRefused(t, "worn", f, trial(), api.ErrFlashWorn)
	expectRead(t, "behind it", f, two, 1, api.OK, one, two)
	ok(t, f.Limit(2))
	expectWrite(t, "once more", f, trial(), 0, 3)
	expectWrite(t, "on the other page", f, trial(), 1, 4)
	expectRefused(t, "worn again", f, trial(), api.ErrFlashWorn)
	ok(t, f.Limit(0))
	expectWrite(t, "without a limit", f, trial(), 0, 5)
	// One page alone is worn.
	f = with(t, nil, c)
	ok(t, f.Limit(1), f.Program(2, 0, b))
	expectWrite(t, "the page that is not worn", f, trial(), 0, 3)
	expectRefused(t, "the worn one", f, trial(), api.ErrFlashWorn)
}

// P25.3: the slots, which of them is active, and the other record page are not touched by any Write.
func TestWriteTouchesOnePage(t *testing.T) {
	r := rolls(7)
	old, other := r.data(128), r.data(100)
	f, err := flash.New(api.Shape{Page: 64, Pages: 2}, 1, [2][]byte{old, other})
	ok(t, err)
	for n := range 40 {
		expectWrite(t, "a row", f, r.record(), n%2, n+1)
		if n%5 == 0 {
			ok(t, f.Turn(), f.Turn())
		}
		for slot, want := range [][]byte{old, filled(other, 128)} {
			if b, err := f.Read(slot, 0, 128); !bytes.Equal(b, want) || err != api.OK {
				t.Errorf("slot %d: % x, %v", slot, b, err)
			}
		}
	}
	if f.Active() != 1 || f.Ops() != 80 {
		t.Error(f.Active(), f.Ops())
	}
}
