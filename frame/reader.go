package frame

import (
	"sapper/api"
	"sapper/crc"
	"sapper/cutter"
	"sapper/num"
	"sapper/swell"
)

// reader takes a patch from the front on. What is none it gives up by a panic of the error.
type reader struct {
	bytes []byte
	at    int // how many were taken
}

// must: else it is not a patch.
func must(holds bool) {
	if !holds {
		panic(api.ErrFrameForm)
	}
}

// take: the next bytes.
func (r *reader) take(n int) []byte {
	must(n <= len(r.bytes)-r.at)
	r.at += n
	return r.bytes[r.at-n : r.at]
}

// number: the next one, in its shortest form. It is held against its bounds as it is, since it may be more than an int holds.
func (r *reader) number(least, most int) int {
	v, n, err := num.Decode(r.bytes[r.at:])
	must(err == api.OK && v >= uint64(least) && v <= uint64(most))
	r.at += n
	return int(v)
}

// word: the next four bytes.
func (r *reader) word() uint32 {
	v, _ := num.Unfix(r.take(sumBytes), sumBytes)
	return uint32(v)
}

// sum: the next four bytes are the sum of all ahead of them.
func (r *reader) sum() {
	ahead := r.bytes[:r.at]
	if r.word() != crc.Sum(ahead) {
		panic(api.ErrFrameSum)
	}
}

// head: the header, whose sum is looked at last.
func (r *reader) head() api.Head {
	must(string(r.take(len(magic))) == magic)
	h := read(r, headFields())
	h.OldSum = r.word()
	h.NewSum = r.word()
	r.sum()
	return h
}

// window: the i-th one.
func (r *reader) window(h api.Head, i int) api.Window {
	s := read(r, sizesFields(h, i))
	var streams [3][]byte
	var made [3]int
	for k, n := range s.Packed {
		streams[k] = swollen(r.take(n), h.Look, s.Raw[k])
		made[k] = len(streams[k])
	}
	must(made == s.Raw)
	steps, err := cutter.Uncontrol(streams[0])
	must(err == api.OK)
	w := api.Window{Pos: s.Pos, Edit: api.Edit{Steps: steps, Diff: streams[1], Extra: streams[2]}}
	must(cutter.Check(w, api.MaxImage, Size(h, i)) == api.OK)
	return w
}

// swollen: a stream's bytes, of which there may be so many at most. Of no bytes there is no stream.
func swollen(p []byte, look, most int) []byte {
	if most == 0 {
		return nil
	}
	// A window above what may come out is no use, and costs its room: a distance beyond that leads nowhere.
	out, err := swell.All(p, min(look, most), most)
	must(err == api.OK)
	return out
}

// end: behind the windows there is the sum, and nothing more.
func (r *reader) end() {
	must(len(r.bytes)-r.at == sumBytes)
	r.sum()
}
