package cutter_test

import (
	"bytes"
	"slices"
	"testing"

	"sapper/api"
	"sapper/cutter"
	"sapper/edit"
)

// holdLaws: P17.6 and P17.7 of an edit over old.
func holdLaws(t *testing.T, old []byte, e api.Edit, n int) {
	t.Helper()
	want, err := edit.Apply(old, e)
	if err != api.OK {
		t.Fatalf("Apply(%v, %v): %v", old, e, err)
	}
	l := mustCut(t, e, n)
	var made []byte
	for i, w := range l {
		b, err := cutter.Apply(old, w, min(n, len(want)-i*n))
		if err != api.OK {
			t.Fatalf("Apply(%v, %v): %v", old, w, err)
		}
		made = append(made, b...)
	}
	if !bytes.Equal(made, want) {
		t.Fatalf("the windows %v of %v make %v, not %v", l, e, made, want)
	}
	joined, err := cutter.Join(n, l...)
	if err != api.OK {
		t.Fatalf("Join(%d, %v): %v", n, l, err)
	}
	if b, err := edit.Apply(old, joined); !bytes.Equal(b, want) || err != api.OK {
		t.Fatalf("Join(Cut(%v)) makes %v, %v, not %v", e, b, err, want)
	}
	if again := mustCut(t, joined, n); !sameWindows(again, l) {
		t.Fatalf("Cut(Join(Cut(%v))) = %v, not %v", e, again, l)
	}
	for _, w := range l {
		b, err := cutter.Control(w.Edit.Steps...)
		if err != api.OK || len(b) > cutter.Most(n) {
			t.Fatalf("Control(%v): %d bytes, %v", w.Edit.Steps, len(b), err)
		}
		holdUncontrol(t, b)
	}
}

// P17.6, P17.7, P17.5: of drawn edits, of many small steps and of few long ones, by windows of drawn sizes.
func TestLaws(t *testing.T) {
	r := rolls(9)
	for range 3000 {
		old := r.data(r.below(300))
		holdLaws(t, old, r.fit(len(old), r.below(40), 1+r.below(5)), 64+r.below(40))
		holdLaws(t, old, r.fit(len(old), r.below(12), 1+r.below(90)), 64+r.below(40))
		holdLaws(t, old, r.fit(len(old), r.below(3), 300), 64)
	}
	holdLaws(t, nil, api.Edit{}, 64)
	holdLaws(t, nil, plain(0, 500, 7), 100)
}

// P17.6: an edit that reads outside of old has a window that does.
func TestReadsOutside(t *testing.T) {
	r := rolls(10)
	refused := 0
	for range 2000 {
		old := r.data(r.below(200))
		e := r.fit(len(old)+1+r.below(9), r.below(20), 1+r.below(20))
		_, err := edit.Apply(old, e)
		wrong := api.OK
		for _, w := range mustCut(t, e, 64) {
			if _, err := cutter.Apply(old, w, size(w.Edit)); err != api.OK {
				wrong = err
			}
		}
		if (err == api.OK) != (wrong == api.OK) {
			t.Fatalf("%v over %d bytes: %v, but its windows: %v", e, len(old), err, wrong)
		}
		if err != api.OK {
			refused++
		}
	}
	if refused < 100 {
		t.Errorf("just %d edits read outside", refused)
	}
}

// P17.6: an edit's Join of Cut takes each byte from the same place with the same value.
func TestSameOrigins(t *testing.T) {
	r := rolls(11)
	for range 2000 {
		e := r.fit(r.below(100), r.below(30), 1+r.below(20))
		joined, err := cutter.Join(64, mustCut(t, e, 64)...)
		if err != api.OK {
			t.Fatal(err)
		}
		if !slices.Equal(kindsOf(0, joined), kindsOf(0, e)) {
			t.Fatalf("Join(Cut(%v)) = %v", e, joined)
		}
	}
}

// P17.6, P17.7: wherever the readings lie: at the first and the last bytes of the largest old image, and far from one window to the next.
func TestLawsOverTheLargest(t *testing.T) {
	old := rollsOver(api.MaxImage)
	m := api.MaxImage
	for _, e := range []api.Edit{
		plain(0, 0, m, 0, 0, -70, 70, 0, -m, 70, 0, 0),
		plain(1, 63, m-2, 1, 63, -m, 1, 0, 0),
		plain(1, 0, m-2, 1, 0, -m, 1, 0, m-2, 1, 0, 0),
		plain(0, 64, m, 0, 0, -1, 1, 64, -m, 65, 0, 0),
		plain(100, 0, m-200, 100, 0, 0),
	} {
		holdLaws(t, old, e, 64)
	}
	whole := api.Edit{Steps: steps(m/2, 0, 0, m/2, 0, 0), Diff: rollsOver(m)}
	holdLaws(t, old, whole, api.MaxWindow)
}

// rollsOver: so many bytes that are unlike their neighbours.
func rollsOver(n int) []byte {
	out := make([]byte, n)
	for i := range out {
		out[i] = byte(i*7 + i>>8)
	}
	return out
}
