package suffix_test

import (
	"bytes"
	"slices"
	"testing"
	"time"

	"sapper/api"
	"sapper/suffix"
)

// limit: a way that holds suffixes against each other from their first byte on would take hours of some of these data.
const limit = 30 * time.Second

// quick: the call ends within the limit.
func quick(t *testing.T, name string, call func()) {
	t.Helper()
	begin := time.Now()
	call()
	if took := time.Since(begin); took > limit {
		t.Errorf("%s took %v", name, took)
	}
}

// P13.1 to P13.5, P13.10, P13.11, P13.16, of data that are long: R1, every call ends.
func TestLong(t *testing.T) {
	for _, s := range shapes(1 << 18) {
		quick(t, s.name, func() {
			x := index(t, s.data)
			if !inOrder(s.data, x.Array()) {
				t.Errorf("%s: not the order of the suffixes", s.name)
			}
			holdLongLcp(t, s.name, x)
			holdLongRepeats(t, s.name, x)
			b, end := turn(t, s.data)
			if d, err := suffix.Unturn(b, end); !bytes.Equal(d, s.data) || err != api.OK {
				t.Errorf("%s: Unturn of Turn: %v", s.name, err)
			}
			if r, err := suffix.Check(s.data, x.Array()); r != 0 || err != api.OK {
				t.Errorf("%s: Check: %d, %v", s.name, r, err)
			}
		})
	}
}

// holdLongLcp: at drawn ranks the neighbours have just so many bytes in common.
func holdLongLcp(t *testing.T, name string, x *suffix.Index) {
	t.Helper()
	r := rolls(3)
	d, array, lcp := x.Data(), x.Array(), x.Lcp()
	for range 200 {
		k := 1 + r.below(len(d)-1)
		if want := commonOf(d[array[k-1]:], d[array[k]:]); lcp[k] != want {
			t.Fatalf("%s: Lcp at %d: %d, not %d", name, k, lcp[k], want)
		}
	}
}

// holdLongRepeats: the first of Repeats' longest ones is Repeat's; of some, they stand at no lesser place, and in their order.
func holdLongRepeats(t *testing.T, name string, x *suffix.Index) {
	t.Helper()
	d := x.Data()
	where, n := x.Repeat()
	all := repeats(t, x, max(1, n))
	if n == 0 && len(all) > 0 || n > 0 && (len(all) == 0 || all[0].At != where || all[0].Len != n) {
		t.Fatalf("%s: Repeat: %d, %d; Repeats: %v", name, where, n, all)
	}
	all = repeats(t, x, 1)
	for i := 0; i < len(all); i += 1 + len(all)/20 {
		a := all[i]
		text := d[a.At : a.At+a.Len]
		if first := bytes.Index(d, text); first != a.At {
			t.Fatalf("%s: %v stands at %d, too", name, a, first)
		}
		if i > 0 {
			b := all[i-1]
			if bytes.Compare(d[b.At:b.At+b.Len], text) >= 0 {
				t.Fatalf("%s: %v ahead of %v", name, b, a)
			}
		}
	}
}

// P13.12, P13.14: long pairs: the same, one within the other, a part of the one in the other.
func TestLongShared(t *testing.T) {
	r := rolls(77)
	part := r.data(50000, 200)
	for _, s := range shapes(1 << 17) {
		quick(t, s.name, func() {
			n := len(s.data)
			holdPlaces(t, s.name+", itself", s.data, s.data, 0, 0, n)
			holdPlaces(t, s.name+", more around", s.data, slices.Concat([]byte("<"), s.data, []byte(">")), 0, 1, n)
			cut := s.data[n/3 : n/2]
			inA, inB, m, err := suffix.Shared(cut, s.data)
			if inA != 0 || m != len(cut) || inB != bytes.Index(s.data, cut) || err != api.OK {
				t.Errorf("%s, a part: %d, %d, %d, %v", s.name, inA, inB, m, err)
			}
		})
	}
	a := slices.Concat(r.data(60000, 256), part, r.data(60000, 256))
	b := slices.Concat(r.data(30000, 256), []byte{9}, part, []byte{9}, r.data(90000, 256))
	holdPlaces(t, "a part in both", a, b, 60000, 30001, len(part))
}

// holdPlaces: what Shared answers, and of the two turned about.
func holdPlaces(t *testing.T, name string, a, b []byte, inA, inB, n int) {
	t.Helper()
	if i, k, m, err := suffix.Shared(a, b); i != inA || k != inB || m != n || err != api.OK {
		t.Errorf("%s: Shared = %d, %d, %d, %v", name, i, k, m, err)
	}
	if k, i, m, err := suffix.Shared(b, a); i != inA || k != inB || m != n || err != api.OK {
		t.Errorf("%s, turned about: Shared = %d, %d, %d, %v", name, k, i, m, err)
	}
}
