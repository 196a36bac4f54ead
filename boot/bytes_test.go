package boot_test

import (
	"bytes"
	"encoding/binary"
	"encoding/hex"
	"math"
	"slices"
	"strings"
	"testing"

	"sapper/api"
	"sapper/boot"
)

// known is a record, and its bytes.
type known struct {
	r api.Record
	b []byte
}

// written: records and their bytes, reckoned by another program.
func written(t *testing.T) []known {
	t.Helper()
	var out []known
	for _, x := range []struct {
		r    api.Record
		text string
	}{
		{api.Record{Seq: 1, Good: image(0, 1, 3, 7)}, "62743031 0100000000000000 00 01000000 03000000 07000000 00 00000000 00000000 00000000 00 40af4a6a"},
		{api.Record{Seq: 2, Good: image(0, 1, 3, 7), Next: image(1, 2, 5, 9), Trial: 3}, "62743031 0200000000000000 00 01000000 03000000 07000000 01 02000000 05000000 09000000 03 e0b344c2"},
		{api.Record{Seq: topSeq, Good: image(1, topVersion, topSize, 0xffffffff), Next: image(0, topVersion, 0, 0x01020304), Trial: 15}, "62743031 0000000000000010 01 ffffff7f 00000001 ffffffff 00 ffffff7f 00000000 04030201 0f 01f15680"},
		{api.Record{Seq: 0x0102030405060708, Good: image(1, 0x11121314, 0x151617, 0x18191a1b), Next: image(0, 0x21222324, 0x252627, 0x28292a2b), Trial: 14}, "62743031 0807060504030201 01 14131211 17161500 1b1a1918 00 24232221 27262500 2b2a2928 0e 3adaa6b0"},
		// Its sum is 0, as that of no bytes is.
		{api.Record{Seq: 2, Good: image(0, 1, 3, 7), Next: image(1, 2, 5, 0xb803e3e9), Trial: 3}, "62743031 0200000000000000 00 01000000 03000000 07000000 01 02000000 05000000 e9e303b8 03 00000000"},
	} {
		b, err := hex.DecodeString(strings.ReplaceAll(x.text, " ", ""))
		if err != nil || len(b) != 43 {
			t.Fatal(err, len(b))
		}
		out = append(out, known{x.r, b})
	}
	return out
}

// expectDecode: what Decode makes of bytes.
func expectDecode(t *testing.T, name string, b []byte, want api.Record, wantErr api.Errno) {
	t.Helper()
	r, err := boot.Decode(b)
	expectRecord(t, name, r, err, want, wantErr)
}

// P25.1: Encode and Decode, written out.
func TestBytesWrittenOut(t *testing.T) {
	for _, x := range written(t) {
		r, want := x.r, x.b
		if b := mustEncode(t, r); !bytes.Equal(b, want) {
			t.Errorf("Encode(%v): % x, not % x", r, b, want)
		}
		if b := modelEncode(r); !bytes.Equal(b, want) {
			t.Errorf("the model's bytes of %v: % x", r, b)
		}
		expectDecode(t, "Decode", want, r, api.OK)
	}
}

// P25.1: of bytes behind the 43 ones nothing is looked at; of fewer none is taken.
func TestDecodeLength(t *testing.T) {
	r := rolls(2)
	for _, k := range written(t) {
		x, b := k.r, k.b
		for n := range b {
			expectDecode(t, "fewer", b[:n], api.Record{}, api.ErrBootRecord)
			// Also where the right ones stand behind them.
			expectDecode(t, "fewer, with room", b[:n:len(b)], api.Record{}, api.ErrBootRecord)
		}
		for _, n := range []int{1, 2, 21, 43, 4053, 1 << 16} {
			expectDecode(t, "more", append(slices.Clone(b), r.data(n)...), x, api.OK)
			expectDecode(t, "more of 255", filled(b, 43+n), x, api.OK)
			expectDecode(t, "not at the front", append(r.data(n), b...), api.Record{}, api.ErrBootRecord)
		}
		expectDecode(t, "one behind the other", append(slices.Clone(b), b...), x, api.OK)
	}
}

// P25.1: each byte of a record turned in each way: the sum tells it (P2.7).
func TestDecodeTurned(t *testing.T) {
	for _, k := range written(t) {
		b := k.b
		for at := range b {
			for mask := 1; mask < 256; mask++ {
				x := slices.Clone(b)
				x[at] ^= byte(mask)
				expectDecode(t, "turned", x, api.Record{}, api.ErrBootRecord)
			}
		}
	}
}

// P25.1: each byte turned in each way, with a sum that is right: a record, if that may be.
func TestDecodeTurnedAndSealed(t *testing.T) {
	var count [2]int
	for _, k := range written(t) {
		b := k.b
		for at := range 39 {
			for mask := 1; mask < 256; mask++ {
				x := slices.Clone(b[:39])
				x[at] ^= byte(mask)
				x = sealed(x)
				want, err := modelDecode(x)
				expectDecode(t, "turned and sealed", x, want, err)
				if at < 4 && err == api.OK {
					t.Errorf("the model takes % x", x)
				}
				if err == api.OK {
					count[0]++
				} else {
					count[1]++
				}
			}
		}
	}
	if count[0] < 5000 || count[1] < 5000 {
		t.Error(count)
	}
}

// P25.1: a right sum over a record at each edge: Decode takes it, just if it may be. (Numbers that need more bytes than they have are another record there, which the model reads.)
func TestDecodeEdges(t *testing.T) {
	for _, c := range edges() {
		b := modelEncode(c.r)
		if c.may {
			expectDecode(t, c.name, b, c.r, api.OK)
			continue
		}
		want, err := modelDecode(b)
		expectDecode(t, c.name, b, want, err)
		if e, err := boot.Encode(c.r); e != nil || err != api.ErrBootRecord {
			t.Errorf("%s: Encode(%v): % x, %v", c.name, c.r, e, err)
		}
	}
}

// P25.1: numbers of eight bytes around 2^60 and far above it, of four bytes around MaxImage and 2^31 - 1, and of one byte, each in its place.
func TestDecodeNumbers(t *testing.T) {
	put := func(r api.Record, at int, v uint64, size int) []byte {
		b := modelEncode(r)[:39]
		var l [8]byte
		binary.LittleEndian.PutUint64(l[:], v)
		copy(b[at:at+size], l[:])
		return sealed(b)
	}
	for v, may := range map[uint64]bool{0: false, 1: true, 255: true, 256: true, 1<<32 - 1: true, 1 << 32: true, topSeq - 1: true, topSeq: true, topSeq + 1: false, 1 << 61: false, 1<<63 - 1: false, 1 << 63: false, 1<<63 + 1: false, 1<<63 + topSeq: false, math.MaxUint64: false} {
		r, err := boot.Decode(put(trial(), 4, v, 8))
		if (err == api.OK) != may || may && r.Seq != int(v) {
			t.Errorf("Seq %d: %v, %v", v, r, err)
		}
	}
	for at, most := range map[int]uint64{13: 2, 17: topSize, 26: topVersion, 30: topSize} {
		for _, v := range []uint64{2, 3, topSize - 1, topSize, topSize + 1, topVersion - 1, topVersion, topVersion + 1, 1<<31 + 2, 1<<32 - 2, 1<<32 - 1} {
			if _, err := boot.Decode(put(trial(), at, v, 4)); (err == api.OK) != (v <= most) {
				t.Errorf("%d at %d: %v", v, at, err)
			}
		}
	}
	for v := range uint64(256) {
		for at, may := range map[int]bool{12: v == 0, 25: v == 1, 38: v <= topTries} {
			if _, err := boot.Decode(put(trial(), at, v, 1)); (err == api.OK) != may {
				t.Errorf("%d at %d: %v", v, at, err)
			}
		}
	}
}

// P25.1: Decode of drawn bytes, records among them, spoilt, cut, with a right sum over what may not be, against the chapter's words.
func TestDecodeDrawn(t *testing.T) {
	r := rolls(3)
	var count [2]int
	for range 100000 {
		b := r.front(r.of(1, topSeq, r.below(3), r.edge()))
		want, err := modelDecode(b)
		expectDecode(t, "drawn", b, want, err)
		if err == api.OK {
			count[0]++
		} else {
			count[1]++
		}
	}
	if count[0] < 20000 || count[1] < 20000 {
		t.Error(count)
	}
}

// P25.10: Decode undoes Encode, whatever stands behind.
func TestDecodeUndoesEncode(t *testing.T) {
	r := rolls(4)
	for range 50000 {
		x := r.record()
		b := mustEncode(t, x)
		if len(b) != 43 {
			t.Fatalf("%d bytes", len(b))
		}
		expectDecode(t, "Decode of Encode", append(b, r.data(r.below(30))...), x, api.OK)
	}
}

// P25.10: 43 bytes that Decode takes are Encode's: of records, of drawn bodies with a right sum, and of records with bits turned and the sum mended.
func TestEncodeOfDecode(t *testing.T) {
	r := rolls(5)
	count := 0
	for range 200000 {
		b := modelEncode(r.record())[:39]
		for range r.below(4) {
			b[r.below(39)] ^= 1 << r.below(8)
		}
		if r.below(20) == 0 {
			b = r.data(39)
		}
		b = sealed(b)
		if r.below(20) == 0 {
			b[r.below(43)] ^= 1 << r.below(8)
		}
		x, err := boot.Decode(b)
		if err != api.OK {
			expectRecord(t, "Decode", x, err, api.Record{}, api.ErrBootRecord)
			continue
		}
		count++
		if again := mustEncode(t, x); !bytes.Equal(again, b) {
			t.Fatalf("% x, and again % x", b, again)
		}
	}
	if count < 30000 {
		t.Error(count)
	}
}
