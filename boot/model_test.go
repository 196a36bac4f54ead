package boot_test

import (
	"bytes"
	"encoding/binary"
	"hash/crc32"
	"slices"

	"sapper/api"
	"sapper/flash"
)

// modelMay: the chapter's section Records, taken literally.
func modelMay(r api.Record) bool {
	g, n := r.Good, r.Next
	seq := 1 <= r.Seq && r.Seq <= 1<<60
	good := (g.Slot == 0 || g.Slot == 1) && 1 <= g.Version && g.Version <= 1<<31-1 && 0 <= g.Size && g.Size <= 1<<24
	left := 0 <= r.Trial && r.Trial <= 15
	without := n.Slot == 0 && n.Version == 0 && n.Size == 0 && n.Sum == 0 && r.Trial == 0
	other := g.Slot == 0 && n.Slot == 1 || g.Slot == 1 && n.Slot == 0
	version := n.Version >= g.Version && n.Version <= 1<<31-1
	size := 0 <= n.Size && n.Size <= 1<<24
	return seq && good && left && (without || other && version && size)
}

// modelCheck: P25.1.
func modelCheck(r api.Record) api.Errno {
	if !modelMay(r) {
		return api.ErrBootRecord
	}
	return api.OK
}

// modelEncode: a record's bytes, also of one that may not be: of each number so many bytes as there is room for.
func modelEncode(r api.Record) []byte {
	b := []byte{0x62, 0x74, 0x30, 0x31}
	b = binary.LittleEndian.AppendUint64(b, uint64(r.Seq))
	for _, i := range []api.Image{r.Good, r.Next} {
		b = append(b, byte(i.Slot))
		b = binary.LittleEndian.AppendUint32(b, uint32(i.Version))
		b = binary.LittleEndian.AppendUint32(b, uint32(i.Size))
		b = binary.LittleEndian.AppendUint32(b, i.Sum)
	}
	return sealed(append(b, byte(r.Trial)))
}

// sealed: bytes with their sum behind them.
func sealed(b []byte) []byte {
	return binary.LittleEndian.AppendUint32(slices.Clone(b), crc32.ChecksumIEEE(b))
}

// modelDecode: P25.1: what the bytes seem to say is taken, if it may be, and has just these bytes.
func modelDecode(b []byte) (api.Record, api.Errno) {
	if len(b) < 43 {
		return api.Record{}, api.ErrBootRecord
	}
	image := func(at int) api.Image {
		word := func(at int) uint32 { return binary.LittleEndian.Uint32(b[at:]) }
		return api.Image{Slot: int(b[at]), Version: int(word(at + 1)), Size: int(word(at + 5)), Sum: word(at + 9)}
	}
	r := api.Record{Seq: int(binary.LittleEndian.Uint64(b[4:])), Good: image(12), Next: image(25), Trial: int(b[38])}
	if !modelMay(r) || !bytes.Equal(modelEncode(r), b[:43]) {
		return api.Record{}, api.ErrBootRecord
	}
	return r, api.OK
}

// modelFronts: of each page the record that it begins with, and whether it does.
func modelFronts(f *flash.Flash) (l [2]api.Record, there [2]bool, err api.Errno) {
	if f.Shape() == (api.Shape{}) {
		return l, there, api.ErrMade
	}
	for page := range l {
		b, err := f.Read(2, page*f.Shape().Page, f.Shape().Page)
		if err != api.OK {
			return l, there, err
		}
		l[page], err = modelDecode(b)
		there[page] = err == api.OK
	}
	return l, there, api.OK
}

// modelRead: P25.2.
func modelRead(f *flash.Flash) (api.Record, int, api.Errno) {
	l, there, err := modelFronts(f)
	switch {
	case err != api.OK:
		return api.Record{}, 0, err
	case !there[0] && !there[1]:
		return api.Record{}, 0, api.ErrBootNone
	case there[0] && there[1] && l[0].Seq == l[1].Seq:
		return l[0], 0, api.OK
	case there[0] && (!there[1] || l[0].Seq > l[1].Seq):
		return l[0], 0, api.OK
	}
	return l[1], 1, api.OK
}

// modelWrite: P25.3.
func modelWrite(f *flash.Flash, r api.Record) (api.Record, api.Errno) {
	told, at, err := modelRead(f)
	page := 0
	switch err {
	case api.OK:
		r.Seq = told.Seq + 1
		if at == 0 {
			page = 1
		}
	case api.ErrBootNone:
		r.Seq = 1
	default:
		return api.Record{}, err
	}
	if !modelMay(r) {
		return api.Record{}, api.ErrBootRecord
	}
	if err := f.Erase(2, page); err != api.OK {
		return api.Record{}, err
	}
	if err := f.Program(2, page, modelEncode(r)); err != api.OK {
		return api.Record{}, err
	}
	return r, api.OK
}

// modelHistory: P25.11.
func modelHistory(f *flash.Flash) ([]api.Record, api.Errno) {
	l, there, err := modelFronts(f)
	if err != api.OK {
		return nil, err
	}
	var out []api.Record
	for page := range l {
		if there[page] {
			out = append(out, l[page])
		}
	}
	slices.SortStableFunc(out, func(a, b api.Record) int { return a.Seq - b.Seq })
	return out, api.OK
}

// modelFirst: P25.4.
func modelFirst(good api.Image) (api.Record, api.Errno) {
	r := api.Record{Seq: 1, Good: good}
	if !modelMay(r) {
		return api.Record{}, api.ErrBootRecord
	}
	return r, api.OK
}

// modelOffer: P25.5.
func modelOffer(r api.Record, next api.Image, tries int) (api.Record, api.Errno) {
	if !modelMay(r) {
		return api.Record{}, api.ErrBootRecord
	}
	if tries < 1 || tries > 15 {
		return api.Record{}, api.ErrArg
	}
	if next.Version < r.Good.Version {
		return api.Record{}, api.ErrBootOld
	}
	out := api.Record{Seq: r.Seq, Good: r.Good, Next: next, Trial: tries}
	if !modelMay(out) {
		return api.Record{}, api.ErrBootRecord
	}
	return out, api.OK
}

// modelStart: P25.6.
func modelStart(r api.Record) (api.Record, api.Image, api.Errno) {
	switch {
	case !modelMay(r):
		return api.Record{}, api.Image{}, api.ErrBootRecord
	case r.Next.Version != 0 && r.Trial > 0:
		return api.Record{Seq: r.Seq, Good: r.Good, Next: r.Next, Trial: r.Trial - 1}, r.Next, api.OK
	case r.Next.Version != 0:
		return api.Record{Seq: r.Seq, Good: r.Good}, r.Good, api.OK
	}
	return r, r.Good, api.OK
}

// modelConfirm: P25.7.
func modelConfirm(r api.Record) (api.Record, api.Errno) {
	if !modelMay(r) {
		return api.Record{}, api.ErrBootRecord
	}
	if r.Next.Version == 0 {
		return api.Record{}, api.ErrBootPhase
	}
	return api.Record{Seq: r.Seq, Good: r.Next}, api.OK
}
