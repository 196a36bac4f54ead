package depot_test

import (
	"bytes"
	"encoding/binary"
	"fmt"
	"slices"
	"strings"
	"testing"

	"sapper/api"
	"sapper/depot"
)

// depoter: what a depot does, and the chapter's words.
type depoter interface {
	Add(image []byte) (api.Key, api.Errno)
	Drop(k api.Key) api.Errno
	Image(k api.Key) ([]byte, api.Errno)
	Keys() []api.Key
	Patch(a api.Ask) ([]byte, api.Errno)
	Serve(workers int, asks ...api.Ask) ([]api.Reply, api.Errno)
	Made() int
	Route(a api.Ask) ([]api.Key, int, api.Errno)
}

// usual: the options of the chapter's tests.
func usual() api.Options {
	return api.Options{Window: 64, Press: api.Press{Look: api.Look{Window: 100, Chain: 10}, Block: 100}}
}

// expect: an error.
func expect(t *testing.T, name string, err, want api.Errno) {
	t.Helper()
	if err != want {
		t.Errorf("%s: %v, not %v", name, err, want)
	}
}

// mustNew: a depot that there must be.
func mustNew(t *testing.T, o api.Options) *depot.Depot {
	t.Helper()
	d, err := depot.New(o)
	if d == nil || err != api.OK {
		t.Fatalf("New(%v): %v", o, err)
	}
	return d
}

// mustAdd: an image that must be kept; its name.
func mustAdd(t *testing.T, d depoter, image []byte) api.Key {
	t.Helper()
	k, err := d.Add(image)
	if err != api.OK || k != keyOf(image) {
		t.Fatalf("Add(%d bytes): %v, %v", len(image), k, err)
	}
	return k
}

// stocked: a depot with these images; their names.
func stocked(t *testing.T, images ...string) (*depot.Depot, []api.Key) {
	t.Helper()
	d := mustNew(t, usual())
	var names []api.Key
	for _, b := range images {
		names = append(names, mustAdd(t, d, []byte(b)))
	}
	return d, names
}

// ask: from one image to another one.
func ask(from, to api.Key) api.Ask { return api.Ask{From: from, To: to} }

// expectPatch: what Patch answers.
func expectPatch(t *testing.T, name string, d depoter, a api.Ask, want []byte, wantErr api.Errno) {
	t.Helper()
	if p, err := d.Patch(a); !bytes.Equal(p, want) || err != wantErr {
		t.Errorf("%s: Patch: %x, %v, not %x, %v", name, p, err, want, wantErr)
	}
}

// expectImage: what Image answers.
func expectImage(t *testing.T, name string, d depoter, k api.Key, want []byte, wantErr api.Errno) {
	t.Helper()
	if b, err := d.Image(k); !bytes.Equal(b, want) || err != wantErr {
		t.Errorf("%s: Image: %x, %v, not %x, %v", name, b, err, want, wantErr)
	}
}

// expectKept: the names of what is kept, and how many patches are.
func expectKept(t *testing.T, name string, d depoter, made int, names ...api.Key) {
	t.Helper()
	if got := d.Keys(); !slices.Equal(got, names) || d.Made() != made {
		t.Errorf("%s: Keys %v, Made %d, not %v, %d", name, got, d.Made(), names, made)
	}
}

// expectServed: what Serve answers.
func expectServed(t *testing.T, name string, d depoter, workers int, asks []api.Ask, want []api.Reply, wantErr api.Errno) {
	t.Helper()
	if l, err := d.Serve(workers, asks...); !sameReplies(l, want) || err != wantErr {
		t.Errorf("%s: Serve(%d, %d asks): %v, %v, not %v, %v", name, workers, len(asks), l, err, want, wantErr)
	}
}

// sameReplies: the same ones, in the same order?
func sameReplies(a, b []api.Reply) bool {
	return slices.EqualFunc(a, b, func(x, y api.Reply) bool { return bytes.Equal(x.Patch, y.Patch) && x.Err == y.Err })
}

// expectRoute: what Route answers.
func expectRoute(t *testing.T, name string, d depoter, a api.Ask, want []api.Key, size int, wantErr api.Errno) {
	t.Helper()
	if l, n, err := d.Route(a); !slices.Equal(l, want) || n != size || err != wantErr {
		t.Errorf("%s: Route: %v, %d, %v, not %v, %d, %v", name, l, n, err, want, size, wantErr)
	}
}

// toldOf: all that a depot tells of what is kept, as a text: the images and how many patches; asking changes nothing.
func toldOf(d depoter) string {
	var out strings.Builder
	for _, k := range d.Keys() {
		b, err := d.Image(k)
		fmt.Fprintf(&out, "%v: %x %v\n", k, b, err)
	}
	fmt.Fprint(&out, d.Made())
	return out.String()
}

// routesOf: each route, as a text.
func routesOf(d depoter) string {
	var out strings.Builder
	for _, from := range d.Keys() {
		for _, to := range d.Keys() {
			l, n, err := d.Route(ask(from, to))
			fmt.Fprintln(&out, from, to, l, n, err)
		}
	}
	return out.String()
}

// twin: an image of the same sum, other in the five bytes from a place on: the sum does not see the generator, up to seven bits on.
func twin(image []byte, place, shift int) []byte {
	var bend [8]byte
	binary.LittleEndian.PutUint64(bend[:], 0x1db710641<<shift)
	out := slices.Clone(image)
	for i := range 5 {
		out[place+i] ^= bend[i]
	}
	return out
}

// lent: a list with room behind its end, and whether all of it is as it was.
func lent(b []byte) ([]byte, func() bool) {
	all := append(slices.Clone(b), 77, 88, 99)
	was := slices.Clone(all)
	return all[:len(b):len(all)], func() bool { return bytes.Equal(all, was) }
}

// spoil: all of a list, and the room behind it, is written over.
func spoil[T any](l []T, v T) {
	for i := range l[:cap(l)] {
		l[:cap(l)][i] = v
	}
}
