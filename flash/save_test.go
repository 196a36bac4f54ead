package flash_test

import (
	"bytes"
	"encoding/binary"
	"math"
	"slices"
	"strconv"
	"strings"
	"testing"

	"sapper/api"
	"sapper/flash"
)

// expectNoLoad: bytes that are no device.
func expectNoLoad(t *testing.T, name string, b []byte) {
	t.Helper()
	if f, err := flash.Load(b); f != nil || err != api.ErrFlashForm {
		t.Errorf("%s: Load(% x): %v, %v", name, b, f, err)
	}
}

// holdLoad: Load against the chapter's words; and, if it takes the bytes, that Save answers them again.
func holdLoad(t *testing.T, b []byte) bool {
	t.Helper()
	f, err := flash.Load(b)
	m, want := modelLoad(b)
	if err != want || (f == nil) != (m == nil) {
		t.Fatalf("Load(% x): %v, not %v", b, err, want)
	}
	if f == nil {
		return false
	}
	if again, err := f.Save(); !bytes.Equal(again, b) || err != api.OK {
		t.Fatalf("Save of Load(% x): % x, %v", b, again, err)
	}
	if allOf(f) != allOf(m) {
		t.Fatalf("Load(% x): %s, not %s", b, allOf(f), allOf(m))
	}
	return true
}

// tiny: a device of one page a slot: the first one programmed with its limit at 300, the second one erased, a record on its second page.
func tiny(t *testing.T) *flash.Flash {
	t.Helper()
	f := mustNew(t, api.Shape{Page: 64, Pages: 1}, 1, []byte("old"), []byte("new"))
	ok(t, f.Limit(300), f.Erase(1, 0), f.Erase(1, 0), f.Program(2, 1, []byte("rec")))
	return f
}

// tinyBytes: it as bytes, written out.
func tinyBytes() []byte {
	blank := func(n int) string { return strings.Repeat("\xff", n) }
	return []byte("FLSH\x01" + "\x40\x01\x01\xac\x02" +
		"\x00\x00old" + blank(61) + "\x02\x01" + "\x00\x01" + "\x00\x00rec" + blank(61) + "\x3d\x94\xc4\x1d")
}

// P21.11: the bytes of a small device, written out; and the device of these.
func TestSaveWrittenOut(t *testing.T) {
	f := tiny(t)
	if b := mustSave(t, f); !bytes.Equal(b, tinyBytes()) {
		t.Errorf("% x, not % x", b, tinyBytes())
	}
	if !bytes.Equal(sealed(tinyBytes()[:len(tinyBytes())-4]), tinyBytes()) {
		t.Error("another sum")
	}
	g := mustLoad(t, tinyBytes())
	if g.Shape() != (api.Shape{Page: 64, Pages: 1}) || g.Active() != 1 || !g.On() {
		t.Errorf("%v, %d, %v", g.Shape(), g.Active(), g.On())
	}
	expectLog(t, g)
	expectPage(t, g, 0, 0, []byte("old"), false, 0)
	expectPage(t, g, 1, 0, nil, true, 2)
	expectPage(t, g, 2, 0, nil, true, 0)
	expectPage(t, g, 2, 1, []byte("rec"), false, 0)
	ok(t, g.Program(2, 0, nil), g.Program(1, 0, nil))
	expect(t, "not erased", g.Program(0, 0, nil), api.ErrFlashOrder)
	expect(t, "not erased", g.Program(2, 1, nil), api.ErrFlashOrder)
	for range 300 {
		ok(t, g.Erase(0, 0))
	}
	expect(t, "at the limit", g.Erase(0, 0), api.ErrFlashWorn)
	for range 298 {
		ok(t, g.Erase(1, 0))
	}
	expect(t, "at the limit", g.Erase(1, 0), api.ErrFlashWorn)
}

// P21.11: a device as New leaves it: all bytes of the slots stand there, those of the erased pages do not.
func TestSaveOfNew(t *testing.T) {
	r := rolls(9)
	for _, s := range []api.Shape{{Page: 64, Pages: 1}, {Page: 64, Pages: 2}, {Page: 128, Pages: 3}, {Page: 4096, Pages: 1}} {
		a := r.data(r.below(s.Page*s.Pages + 1))
		f := mustNew(t, s, 0, a, nil)
		want := binary.AppendUvarint([]byte("FLSH\x01"), uint64(s.Page))
		want = append(want, byte(s.Pages), 0, 0)
		for _, slot := range [][]byte{a, nil} {
			for page := range slices.Chunk(filled(slot, s.Page*s.Pages), s.Page) {
				want = append(append(want, 0, 0), page...)
			}
		}
		want = sealed(append(want, 0, 1, 0, 1))
		if b := mustSave(t, f); !bytes.Equal(b, want) {
			t.Errorf("%v: % x, not % x", s, b, want)
		}
		holdLoad(t, want)
	}
}

// P21.11: each bit of the bytes turned, each byte another one; then with a right sum.
func TestTurnedBytes(t *testing.T) {
	b := tinyBytes()
	end := len(b) - 4
	taken := 0
	for at := range b {
		for v := range 256 {
			c := slices.Clone(b)
			c[at] ^= byte(v)
			if v == 0 {
				holdLoad(t, c)
				continue
			}
			if at >= end || v&(v-1) == 0 || v == 255 {
				expectNoLoad(t, "turned", c)
			}
			if at < end && (v&(v-1) == 0 || at < 30 || at > end-70) && holdLoad(t, sealed(c[:end])) {
				taken++
			}
		}
	}
	if taken < 1000 {
		t.Error(taken)
	}
}

// P21.11: cut short at each place, and with bytes behind the end; then with a right sum.
func TestShortAndLong(t *testing.T) {
	b := tinyBytes()
	end := len(b) - 4
	for n := range b {
		expectNoLoad(t, "cut short", b[:n])
		if n < end {
			expectNoLoad(t, "cut short, with a sum", sealed(b[:n]))
			expectNoLoad(t, "without its beginning", b[n+1:])
			expectNoLoad(t, "without its beginning, with a sum", sealed(b[n+1:end]))
			// The limit's first byte is the one that can be missed.
			if holdLoad(t, sealed(slices.Delete(slices.Clone(b[:end]), n, n+1))) != (n == 8) {
				t.Errorf("without byte %d, with a sum", n)
			}
		}
	}
	for _, more := range [][]byte{{0}, {1}, {255}, {0, 1}, {0, 0}, []byte("FLSH\x01"), filled(nil, 64), b} {
		expectNoLoad(t, "bytes behind", slices.Concat(b, more))
		expectNoLoad(t, "bytes behind, with a sum", sealed(slices.Concat(b, more)))
		expectNoLoad(t, "bytes ahead of the sum", slices.Concat(b[:end], more, b[end:]))
		expectNoLoad(t, "bytes ahead of a right sum", sealed(slices.Concat(b[:end], more)))
		expectNoLoad(t, "bytes ahead", slices.Concat(more, b))
		expectNoLoad(t, "bytes ahead, with a sum", sealed(slices.Concat(more, b[:end])))
	}
	for _, none := range [][]byte{nil, {}, make([]byte, 3), make([]byte, 4), make([]byte, 5), sealed(nil), sealed([]byte("FLSH\x01")), sealed([]byte("FLSH")), make([]byte, 1000)} {
		expectNoLoad(t, "nothing", none)
	}
}

// P21.11: other beginnings, with a right sum.
func TestOtherMagic(t *testing.T) {
	rest := tinyBytes()[5 : len(tinyBytes())-4]
	for _, m := range []string{"FLSH\x00", "FLSH\x02", "FLSH\x81", "flsh\x01", "FLSH", "FLS\x01", "HSLF\x01", "\x01FLSH", "FLSH\x01\x01", "FLSH\x81\x00", ""} {
		expectNoLoad(t, strconv.Quote(m), sealed(append([]byte(m), rest...)))
	}
	holdLoad(t, sealed(append([]byte("FLSH\x01"), rest...)))
}

// P21.11: sums that are wrong: another one, its bytes turned about, that of other bytes, all bits turned.
func TestWrongSum(t *testing.T) {
	b := tinyBytes()
	end := len(b) - 4
	sum := binary.LittleEndian.Uint32(b[end:])
	for _, v := range []uint32{0, 1, sum + 1, sum - 1, ^sum, math.MaxUint32, 0x2144df1c} {
		expectNoLoad(t, "another sum", binary.LittleEndian.AppendUint32(slices.Clone(b[:end]), v))
	}
	expectNoLoad(t, "the greatest byte first", binary.BigEndian.AppendUint32(slices.Clone(b[:end]), sum))
	expectNoLoad(t, "a sum of the rest", slices.Concat(b[:end], sealed(b[5:end])[end-5:]))
}

// numberPlaces: where the numbers of tinyBytes begin, and how many bytes they have: Page, Pages, active, the limit; the wears and the bytes behind them of the four pages.
func numberPlaces() [][2]int {
	return [][2]int{{5, 1}, {6, 1}, {7, 1}, {8, 2}, {10, 1}, {11, 1}, {76, 1}, {77, 1}, {78, 1}, {79, 1}, {80, 1}, {81, 1}}
}

// P21.11: each of the numbers in a form that is not the shortest, and such as are too great, with a right sum.
func TestLongNumbers(t *testing.T) {
	b := tinyBytes()
	body := b[:len(b)-4]
	for _, p := range numberPlaces() {
		at, n := p[0], p[1]
		number := slices.Clone(body[at : at+n])
		ones := bytes.Repeat([]byte{0xff}, 9)
		number[n-1] |= 0x80
		for name, other := range map[string][]byte{
			"a byte more":      append(slices.Clone(number), 0),
			"two bytes more":   append(slices.Clone(number), 0x80, 0),
			"no end":           append(bytes.Repeat([]byte{0x80}, 20), 0),
			"the greatest":     append(slices.Clone(ones), 1),
			"above all":        append(slices.Clone(ones), 2),
			"the greatest int": append(slices.Clone(ones[:8]), 0x7f),
			"2^63":             append(bytes.Repeat([]byte{0x80}, 9), 1),
			"2^32 and it":      binary.AppendUvarint(nil, 1<<32+uint64(body[at])),
			"none":             nil,
		} {
			c := sealed(slices.Concat(body[:at], other, body[at+n:]))
			// A limit and a wear may be as great as 2^32.
			if slices.Contains([]int{8, 10, 76, 78, 80}, at) && name == "2^32 and it" {
				if !holdLoad(t, c) {
					t.Errorf("2^32 at %d", at)
				}
				continue
			}
			expectNoLoad(t, name, c)
		}
	}
}

// P21.11: a page's byte that is neither 0 nor 1, erased pages that have bytes, and pages without.
func TestPageBytes(t *testing.T) {
	b := tinyBytes()
	body := b[:len(b)-4]
	for _, at := range []int{11, 77, 79, 81} {
		for v := range 256 {
			c := slices.Clone(body)
			c[at] = byte(v)
			if taken := holdLoad(t, sealed(c)); taken != (byte(v) == body[at]) {
				t.Errorf("byte %d is %d: %v", at, v, taken)
			}
		}
	}
	for _, at := range []int{77, 79} {
		c := slices.Insert(slices.Clone(body), at+1, filled(nil, 64)...)
		expectNoLoad(t, "an erased page with bytes", sealed(c))
		c[at] = 0
		if !holdLoad(t, sealed(c)) {
			t.Error("a page that is not erased, with bytes")
		}
	}
}

// draft: a device for bytes that Save may not answer: all pages of the slots not erased, those of area 2 erased.
func draft(page, pages int) *model {
	m := &model{shape: api.Shape{Page: page, Pages: pages}, power: true}
	for area, n := range pagesOf(m.shape) {
		for range n {
			m.areas[area] = append(m.areas[area], leaf{bytes: filled(nil, page), erased: area == 2})
		}
	}
	return m
}

// P21.11: shapes at their edges and beyond, and active slots, with all the pages that they have.
func TestLoadShapes(t *testing.T) {
	for _, c := range []struct {
		page, pages, active int
		may                 bool
	}{
		{64, 1, 0, true}, {64, 1, 1, true}, {64, 1, 2, false}, {64, 1, 255, false}, {64, 1, math.MaxInt, false},
		{63, 1, 0, false}, {0, 1, 0, false}, {1, 1, 0, false}, {65, 1, 0, true}, {4095, 1, 0, true}, {4096, 1, 0, true}, {4097, 1, 0, false},
		{64, 0, 0, false}, {64, 2, 0, true}, {64, 4095, 0, true}, {64, 4096, 0, true}, {64, 4097, 0, false}, {63, 0, 0, false},
	} {
		m := draft(c.page, c.pages)
		m.active = c.active
		b := mustSave(t, m)
		f, err := flash.Load(b)
		if !c.may {
			expectNoLoad(t, "a device that may not be", b)
			continue
		}
		if err != api.OK || f.Shape() != m.shape || f.Active() != c.active {
			t.Errorf("%v: %v", c, err)
			continue
		}
		if again := mustSave(t, f); !bytes.Equal(again, b) {
			t.Errorf("%v: other bytes", c)
		}
	}
}

// P21.4, P21.10, P21.11: wears and a limit of 2^40, one less and one more; a page of wear 2^40 is worn, with and without a limit.
func TestGreatWears(t *testing.T) {
	const most = 1 << 40
	for area := range 3 {
		for _, limit := range []int{0, 1, most - 1, most} {
			m := draft(64, 2)
			m.limit = limit
			m.areas[area][1].wear = most - 1
			f := mustLoad(t, mustSave(t, m))
			if limit == 1 || limit == most-1 {
				expect(t, "at the limit", f.Erase(area, 1), api.ErrFlashWorn)
				ok(t, f.Limit(0))
			}
			ok(t, f.Erase(area, 1))
			expectPage(t, f, area, 1, nil, true, most)
			for _, n := range []int{limit, 0, most} {
				ok(t, f.Limit(n))
				expect(t, "worn", f.Erase(area, 1), api.ErrFlashWorn)
			}
			ok(t, f.Program(area, 1, []byte("x")))
			expect(t, "worn", f.Erase(area, 1), api.ErrFlashWorn)
			expectPage(t, f, area, 1, []byte("x"), false, most)
			g := mustLoad(t, mustSave(t, f))
			expectPage(t, g, area, 1, []byte("x"), false, most)
			expect(t, "worn", g.Erase(area, 1), api.ErrFlashWorn)
			m.areas[area][1].wear = most + 1
			expectNoLoad(t, "a wear", mustSave(t, m))
			m.areas[area][1].wear = math.MaxInt
			expectNoLoad(t, "a wear", mustSave(t, m))
		}
	}
	m := draft(64, 1)
	m.limit = most + 1
	expectNoLoad(t, "a limit", mustSave(t, m))
	m.limit = math.MaxInt
	expectNoLoad(t, "a limit", mustSave(t, m))
}

// P21.5, P21.10: an Erase that is cut brings a wear to 2^40, too.
func TestGreatWearCut(t *testing.T) {
	m := draft(64, 1)
	m.areas[0][0].wear = 1<<40 - 1
	f := mustLoad(t, mustSave(t, m))
	ok(t, f.Cut(1, []byte("z")))
	expect(t, "cut", f.Erase(0, 0), api.ErrFlashPower)
	f.Power()
	expectPage(t, f, 0, 0, []byte("z"), false, 1<<40)
	ok(t, f.Cut(1, nil))
	expect(t, "worn", f.Erase(0, 0), api.ErrFlashWorn)
	if !f.On() {
		t.Error("without power")
	}
}

// P21.11: which wears and erased pages go together is not looked at: an erased page of a slot with wear 0, pages of area 2 that are not erased, with wear and without.
func TestAnyPages(t *testing.T) {
	for state := range 1 << 8 {
		m := draft(64, 1)
		for i, l := range []*leaf{&m.areas[0][0], &m.areas[1][0], &m.areas[2][0], &m.areas[2][1]} {
			l.erased = state>>(2*i)&1 == 1
			l.wear = state >> (2*i + 1) & 1 * 7
			if !l.erased {
				l.bytes = filled([]byte{byte(i)}, 64)
			}
		}
		if b := mustSave(t, m); !holdLoad(t, b) {
			t.Errorf("% x", b)
		}
	}
	m := draft(64, 1)
	m.areas[0][0].erased = true
	f := mustLoad(t, mustSave(t, m))
	expectPage(t, f, 0, 0, nil, true, 0)
	ok(t, f.Program(0, 0, []byte("x")))
	expectPage(t, f, 0, 0, []byte("x"), false, 0)
}

// P21.11: Save without power; behind Load there is power, no planned cut and no log, while the device that was saved keeps its own.
func TestSaveAndPower(t *testing.T) {
	f := tiny(t)
	ops := f.Ops()
	ok(t, f.Cut(1, []byte("torn")))
	b := mustSave(t, f)
	if !bytes.Equal(b, tinyBytes()) {
		t.Errorf("with a planned cut: % x", b)
	}
	g := mustLoad(t, b)
	expectLog(t, g)
	for range 5 {
		ok(t, g.Erase(0, 0))
	}
	expectLog(t, g, 1, 0, 0, 1, 0, 0, 1, 0, 0, 1, 0, 0, 1, 0, 0)
	if f.Ops() != ops {
		t.Error("the log of the one that was saved has changed")
	}
	expect(t, "its cut", f.Erase(0, 0), api.ErrFlashPower)
	if c, err := f.Save(); c != nil || err != api.ErrFlashPower {
		t.Errorf("without power: %d bytes, %v", len(c), err)
	}
	f.Power()
	expectPage(t, mustLoad(t, mustSave(t, f)), 0, 0, []byte("torn"), false, 1)
}

// P21.11: drawn bytes of devices, a little bent, most of them with a right sum.
func TestBentBytes(t *testing.T) {
	r := rolls(10)
	taken := 0
	for range 3000 {
		b := mustSave(t, r.worked(t))
		for range 1 + r.below(2) {
			b = r.bent(b)
		}
		if r.below(5) > 0 && len(b) >= 4 {
			b = sealed(b[:len(b)-4])
		}
		if holdLoad(t, b) {
			taken++
		}
	}
	if taken < 300 || taken > 2700 {
		t.Error(taken)
	}
}
