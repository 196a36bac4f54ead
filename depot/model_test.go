package depot_test

import (
	"bytes"
	"hash/crc32"
	"slices"
	"sync"
	"testing"

	"sapper/api"
	"sapper/maker"
)

// held is an image that is kept.
type held struct {
	name  api.Key
	bytes []byte
}

// model is a depot by the chapter's words taken literally: lists that are gone through from the front. A list that changes is a new one, so that a copy of a model goes on by itself.
type model struct {
	o      api.Options
	images []held
	asked  []patched
}

// patched is a patch that is kept, and how many bytes it has.
type patched struct {
	ask   api.Ask
	bytes int
}

// P27.1, word by word.
func keyOf(image []byte) api.Key {
	k := api.Key{Size: len(image), Sum: crc32.ChecksumIEEE(image)}
	for i := range 8 {
		if i < len(image) {
			k.Ends[i] = image[i]
			k.Ends[15-i] = image[len(image)-1-i]
		}
	}
	return k
}

// making is what a patch hangs on.
type making struct {
	old, next string
	o         api.Options
}

// made has the patches that the maker has made so far, so that each is made once for all models.
var made struct {
	lock sync.Mutex
	all  map[making][]byte
}

// generate: what the maker makes.
func generate(old, next []byte, o api.Options) []byte {
	k := making{string(old), string(next), o}
	made.lock.Lock()
	defer made.lock.Unlock()
	if made.all == nil {
		made.all = map[making][]byte{}
	}
	if made.all[k] == nil {
		made.all[k], _ = maker.Generate(old, next, o)
	}
	return slices.Clone(made.all[k])
}

// where: the place of an image, or -1.
func (m *model) where(k api.Key) int {
	return slices.IndexFunc(m.images, func(h held) bool { return h.name == k })
}

// Add: P27.3.
func (m *model) Add(image []byte) (api.Key, api.Errno) {
	if len(image) > 1<<24 {
		return api.Key{}, api.ErrDepotMany
	}
	k := keyOf(image)
	at := m.where(k)
	if at >= 0 && !bytes.Equal(m.images[at].bytes, image) {
		return api.Key{}, api.ErrDepotClash
	}
	if at >= 0 {
		return k, api.OK
	}
	if len(m.images) == 64 {
		return api.Key{}, api.ErrDepotMany
	}
	m.images = append(slices.Clone(m.images), held{name: k, bytes: slices.Clone(image)})
	return k, api.OK
}

// Drop: P27.3.
func (m *model) Drop(k api.Key) api.Errno {
	at := m.where(k)
	if at < 0 {
		return api.ErrDepotImage
	}
	m.images = slices.Delete(slices.Clone(m.images), at, at+1)
	var rest []patched
	for _, p := range m.asked {
		if p.ask.From != k && p.ask.To != k {
			rest = append(rest, p)
		}
	}
	m.asked = rest
	return api.OK
}

// Image: P27.3.
func (m *model) Image(k api.Key) ([]byte, api.Errno) {
	at := m.where(k)
	if at < 0 {
		return nil, api.ErrDepotImage
	}
	return slices.Clone(m.images[at].bytes), api.OK
}

// ahead: does the name a stand ahead of b? By Size, of equal Size by Sum, of equal Sum by Ends, byte by byte.
func ahead(a, b api.Key) bool {
	if a.Size != b.Size {
		return a.Size < b.Size
	}
	if a.Sum != b.Sum {
		return a.Sum < b.Sum
	}
	for i := range a.Ends {
		if a.Ends[i] != b.Ends[i] {
			return a.Ends[i] < b.Ends[i]
		}
	}
	return false
}

// Keys: P27.3; each stands behind as many as are ahead of it.
func (m *model) Keys() []api.Key {
	out := make([]api.Key, len(m.images))
	for _, h := range m.images {
		n := 0
		for _, x := range m.images {
			if ahead(x.name, h.name) {
				n++
			}
		}
		out[n] = h.name
	}
	return out
}

// Patch: P27.4.
func (m *model) Patch(a api.Ask) ([]byte, api.Errno) {
	from, to := m.where(a.From), m.where(a.To)
	if from < 0 || to < 0 {
		return nil, api.ErrDepotImage
	}
	p := generate(m.images[from].bytes, m.images[to].bytes, m.o)
	if m.size(a) == 0 {
		m.asked = append(slices.Clone(m.asked), patched{ask: a, bytes: len(p)})
	}
	return p, api.OK
}

// Made: P27.4.
func (m *model) Made() int { return len(m.asked) }

// Serve: P27.5.
func (m *model) Serve(workers int, asks ...api.Ask) ([]api.Reply, api.Errno) {
	if workers < 1 || workers > 16 {
		return nil, api.ErrArg
	}
	var out []api.Reply
	for _, a := range asks {
		p, err := m.Patch(a)
		out = append(out, api.Reply{Patch: p, Err: err})
	}
	return out, api.OK
}

// size: how many bytes the kept patch has; 0: none is.
func (m *model) size(a api.Ask) int {
	for _, p := range m.asked {
		if p.ask == a {
			return p.bytes
		}
	}
	return 0
}

// row is a row of images, from each of which to the next one a patch is kept.
type row struct {
	names []api.Key
	bytes int
}

// rows: all rows, each image once, that begin so and end at an image.
func (m *model) rows(begin row, to api.Key) []row {
	last := begin.names[len(begin.names)-1]
	if last == to {
		return []row{begin}
	}
	var out []row
	for _, h := range m.images {
		if n := m.size(ask(last, h.name)); n > 0 && !slices.Contains(begin.names, h.name) {
			out = append(out, m.rows(row{names: append(slices.Clone(begin.names), h.name), bytes: begin.bytes + n}, to)...)
		}
	}
	return out
}

// before: is r picked, rather than x?
func (r row) before(x row) bool {
	if r.bytes != x.bytes {
		return r.bytes < x.bytes
	}
	if len(r.names) != len(x.names) {
		return len(r.names) < len(x.names)
	}
	for i := range r.names {
		if r.names[i] != x.names[i] {
			return ahead(r.names[i], x.names[i])
		}
	}
	return false
}

// routes: all rows from one to the other, if both are kept.
func (m *model) routes(a api.Ask) ([]row, api.Errno) {
	if m.where(a.From) < 0 || m.where(a.To) < 0 {
		return nil, api.ErrDepotImage
	}
	return m.rows(row{names: []api.Key{a.From}}, a.To), api.OK
}

// Route: P27.10, by all rows there are.
func (m *model) Route(a api.Ask) ([]api.Key, int, api.Errno) {
	l, err := m.routes(a)
	if err != api.OK {
		return nil, 0, err
	}
	if len(l) == 0 {
		return nil, 0, api.ErrDepotRoute
	}
	best := l[0]
	for _, x := range l {
		if x.before(best) {
			best = x
		}
	}
	return best.names, best.bytes, api.OK
}

// The model itself against answers by hand.
func TestModel(t *testing.T) {
	m := &model{o: usual()}
	a, b := mustAdd(t, m, []byte("a")), mustAdd(t, m, []byte("b"))
	expectRoute(t, "none", m, ask(a, b), nil, 0, api.ErrDepotRoute)
	p, err := m.Patch(ask(a, b))
	expect(t, "Patch", err, api.OK)
	expectRoute(t, "one", m, ask(a, b), []api.Key{a, b}, len(p), api.OK)
	expectRoute(t, "itself", m, ask(b, b), []api.Key{b}, 0, api.OK)
	expectKept(t, "both", m, 1, b, a)
	expect(t, "Drop", m.Drop(a), api.OK)
	expectKept(t, "one", m, 0, b)
}
