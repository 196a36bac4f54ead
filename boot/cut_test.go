package boot_test

import (
	"bytes"
	"slices"
	"testing"

	"sapper/api"
	"sapper/boot"
	"sapper/flash"
)

// start: a flash with nothing on it, one record, or two, on either page; what Read tells of it, and which page a Write comes to, with which Seq.
type start struct {
	name      string
	pages     [2][]byte
	told      api.Record
	there     bool
	page, seq int
}

func starts() []start {
	low, b := numbered(6, 1)
	high, c := numbered(7, 2)
	spoilt := slices.Clone(b)
	spoilt[42] ^= 1
	return []start{
		{name: "none", page: 0, seq: 1},
		{name: "spoilt ones", pages: [2][]byte{spoilt, spoilt}, page: 0, seq: 1},
		{name: "one on page 0", pages: [2][]byte{b, nil}, told: low, there: true, page: 1, seq: 7},
		{name: "one on page 1", pages: [2][]byte{nil, b}, told: low, there: true, page: 0, seq: 7},
		{name: "one on page 1, a spoilt one ahead", pages: [2][]byte{spoilt, b}, told: low, there: true, page: 0, seq: 7},
		{name: "the lesser one on page 0", pages: [2][]byte{b, c}, told: high, there: true, page: 0, seq: 8},
		{name: "the lesser one on page 1", pages: [2][]byte{c, b}, told: high, there: true, page: 1, seq: 8},
		{name: "twice the same", pages: [2][]byte{b, b}, told: low, there: true, page: 1, seq: 7},
	}
}

// tears: what a cut may leave at the front of the page to which a record is being written: none of it, each part, the whole, others.
func tears(r *rolls, b []byte) [][]byte {
	out := [][]byte{nil, {}, filled(nil, 64), make([]byte, 64), r.data(64), r.data(43), append(slices.Clone(b), r.data(21)...)}
	for n := range 44 {
		out = append(out, b[:n], append(slices.Clone(b[:n]), r.data(r.below(65-n))...))
	}
	return out
}

// P25.3, P25.8: a Write whose Erase or Program is cut, over each beginning, with all tears: ErrFlashPower, one page is torn, and Read tells the record that it told ahead, or the one that was being written, if that is whole there. Behind it a Write goes through.
func TestCutWrite(t *testing.T) {
	r := rolls(8)
	whole, kept := 0, 0
	for _, s := range starts() {
		for _, x := range []api.Record{plain(), trial()} {
			want := x
			want.Seq = s.seq
			for n := 1; n <= 2; n++ {
				for _, torn := range tears(&r, modelEncode(want)) {
					f := with(t, s.pages[0], s.pages[1])
					ops, was, beside := f.Ops(), pageOf(t, f, s.page), pageOf(t, f, 1-s.page)
					ok(t, f.Cut(n, torn))
					got, err := boot.Write(f, x)
					expectRecord(t, s.name, got, err, api.Record{}, api.ErrFlashPower)
					if f.On() || !slices.Equal(f.Log()[ops:], opsOf(1, s.page, 2, s.page)[:n]) {
						t.Errorf("%s: %v, %v", s.name, f.On(), f.Log()[ops:])
					}
					f.Power()
					if n == 2 {
						was = filled(nil, 64)
					}
					copy(was, torn)
					if !bytes.Equal(pageOf(t, f, s.page), was) || !bytes.Equal(pageOf(t, f, 1-s.page), beside) {
						t.Errorf("%s: other bytes than the cut leaves", s.name)
					}
					if bytes.Equal(was[:43], modelEncode(want)) {
						whole++
						expectTold(t, s.name, f, want, true)
						expectWrite(t, s.name, f, plain(), 1-s.page, s.seq+1)
						continue
					}
					kept++
					expectTold(t, s.name, f, s.told, s.there)
					expectWrite(t, s.name, f, plain(), s.page, s.seq)
				}
			}
		}
	}
	if whole < 60 || kept < 1000 {
		t.Error(whole, kept)
	}
}

// expectTold: the record that Read tells, or that it tells none.
func expectTold(t *testing.T, name string, f *flash.Flash, want api.Record, there bool) {
	t.Helper()
	wantErr := api.ErrBootNone
	if there {
		wantErr = api.OK
	}
	r, _, err := boot.Read(f)
	expectRecord(t, name, r, err, want, wantErr)
}

// P25.8: a cut that is planned beyond a Write's two operations does not reach it.
func TestCutBehindWrite(t *testing.T) {
	for _, s := range starts() {
		f := with(t, s.pages[0], s.pages[1])
		ok(t, f.Cut(3, nil))
		expectWrite(t, s.name, f, trial(), s.page, s.seq)
		r, err := boot.Write(f, trial())
		expectRecord(t, s.name, r, err, api.Record{}, api.ErrFlashPower)
	}
}

// torn: what a drawn cut leaves: none, a beginning of the record that was being written or all of it, with drawn bytes behind it or not, drawn bytes, the record that stands on the other page, or quite another one.
func (r *rolls) torn(being, beside []byte) []byte {
	switch r.below(8) {
	case 0:
		return nil
	case 1:
		return being
	case 2:
		return append(slices.Clone(being), r.data(r.below(22))...)
	case 3:
		return r.data(r.below(65))
	case 4:
		return beside[:r.below(len(beside)+1)]
	case 5:
		x := r.record()
		x.Seq = r.of(1, 2, 5, topSeq)
		return modelEncode(x)
	case 6:
		n := r.below(44)
		return append(slices.Clone(being[:n]), r.data(r.below(65-n))...)
	}
	return being[:r.below(44)]
}

// P25.8: drawn rows of Writes, of records that may be and that may not, with cuts at each of their operations, worn pages and drawn tears: what Read tells behind each is the record that it told ahead, or the one that was being written, as long as the torn page begins with no other one.
func TestRowsOfWrites(t *testing.T) {
	r := rolls(9)
	count := map[string]int{}
	for range 3000 {
		f := mustFlash(t, r.of(64, 65, 100), 1)
		for range 1 + r.below(15) {
			told, page, toldErr := modelRead(f)
			if toldErr != api.OK {
				page = 1
			}
			x := r.any()
			being := x
			being.Seq = told.Seq + 1
			ahead, _ := modelDecode(pageOf(t, f, 1-page))
			ok(t, f.Cut(r.below(4), r.torn(modelEncode(being), pageOf(t, f, page))), f.Limit(r.of(0, 0, 0, 1+r.below(4))))
			got, err := boot.Write(f, x)
			cut := !f.On()
			f.Power()
			now, _, nowErr := boot.Read(f)
			kind := "other"
			switch left, _ := modelDecode(pageOf(t, f, 1-page)); {
			case cut && left != (api.Record{}) && left != ahead && left != being:
				// The premise does not hold: what Read tells then is the page's bytes alone.
				kind = "another record"
				want, _, wantErr := modelRead(f)
				expectRecord(t, kind, now, nowErr, want, wantErr)
			case err == api.OK:
				kind = "written"
				expectRecord(t, kind, got, err, being, api.OK)
				expectRecord(t, kind, now, nowErr, being, api.OK)
			case cut && left == being && modelMay(being):
				kind = "cut, but whole"
				expectRecord(t, kind, now, nowErr, being, api.OK)
			default:
				if cut {
					kind = "cut"
				}
				expectRecord(t, kind, now, nowErr, told, toldErr)
			}
			count[kind]++
			if err != api.OK && got != (api.Record{}) || cut != (err == api.ErrFlashPower) {
				t.Fatalf("Write: %v, %v, %v", got, err, cut)
			}
		}
	}
	for _, kind := range []string{"written", "cut", "cut, but whole", "another record", "other"} {
		if count[kind] < 500 {
			t.Error(kind, count)
		}
	}
}
