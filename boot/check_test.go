package boot_test

import (
	"math"
	"testing"

	"sapper/api"
	"sapper/boot"
)

// edged: a record with some of its fields turned, and whether it may be.
type edged struct {
	name string
	r    api.Record
	may  bool
}

// edgesOf: records with one field each at numbers of its own, and which of these may be.
func edgesOf(name string, r api.Record, at func(*api.Record) *int, may, not []int) []edged {
	var out []edged
	for i, v := range append(append([]int{}, may...), not...) {
		x := r
		*at(&x) = v
		out = append(out, edged{name, x, i < len(may)})
	}
	return out
}

// edges: the section Records, written out.
func edges() []edged {
	var out []edged
	far := []int{math.MinInt, math.MinInt + 1, -1 << 32, -1 << 31, math.MaxInt - 1, math.MaxInt}
	slots := append([]int{-1, 2, 3, 255, 256, 257, 1 << 32, 1<<32 + 1}, far...)
	sizes := append([]int{-1, topSize + 1, topVersion, 1 << 32}, far...)
	for _, r := range []api.Record{plain(), trial()} {
		out = append(out, edged{"as it is", r, true})
		out = append(out, edgesOf("Seq", r, func(r *api.Record) *int { return &r.Seq }, []int{1, 2, 3, topSeq - 1, topSeq}, append([]int{0, -1, topSeq + 1, 1 << 61}, far...))...)
		out = append(out, edgesOf("Good's Size", r, func(r *api.Record) *int { return &r.Good.Size }, []int{0, 1, topSize - 1, topSize}, sizes)...)
		for _, sum := range []uint32{0, 1, math.MaxUint32} {
			x := r
			x.Good.Sum = sum
			out = append(out, edged{"Good's Sum", x, true})
		}
	}
	// The other one's Slot is Next's, so that what it is alone tells here.
	out = append(out, edgesOf("Good's Slot", plain(), func(r *api.Record) *int { return &r.Good.Slot }, []int{0, 1}, slots)...)
	out = append(out, edgesOf("Good's Slot with a Next", trial(), func(r *api.Record) *int { return &r.Good.Slot }, []int{0}, append([]int{1}, slots...))...)
	out = append(out, edgesOf("Good's Version", plain(), func(r *api.Record) *int { return &r.Good.Version }, []int{1, 2, topVersion - 1, topVersion}, append([]int{0, -1, topVersion + 1, 1 << 32, 1<<32 + 1}, far...))...)
	out = append(out, edgesOf("Good's Version with a Next", trial(), func(r *api.Record) *int { return &r.Good.Version }, []int{1, 2}, append([]int{0, -1, 3, topVersion, topVersion + 1, 1<<32 + 1}, far...))...)
	out = append(out, edgesOf("Trial without a Next", plain(), func(r *api.Record) *int { return &r.Trial }, []int{0}, append([]int{-1, 1, 2, topTries, topTries + 1, 256}, far...))...)
	out = append(out, edgesOf("Trial with a Next", trial(), func(r *api.Record) *int { return &r.Trial }, []int{0, 1, 2, topTries - 1, topTries}, append([]int{-1, topTries + 1, 255, 256, 257}, far...))...)
	return append(out, edgesOfNext()...)
}

// edgesOfNext: those of the image that is tried.
func edgesOfNext() []edged {
	var out []edged
	far := []int{math.MinInt, math.MinInt + 1, -1 << 32, -1 << 31, -1, 1 << 32, 1<<32 + 1, math.MaxInt - 1, math.MaxInt}
	slot := func(r *api.Record) *int { return &r.Next.Slot }
	version := func(r *api.Record) *int { return &r.Next.Version }
	size := func(r *api.Record) *int { return &r.Next.Size }
	other := trial()
	other.Good.Slot, other.Next.Slot = 1, 0
	out = append(out, edgesOf("Next's Slot", trial(), slot, []int{1}, append([]int{0, 2, 3, 256, 257}, far...))...)
	out = append(out, edgesOf("Next's Slot, Good's being 1", other, slot, []int{0}, append([]int{1, 2, 3, 256, 257}, far...))...)
	for _, r := range []api.Record{trial(), other} {
		r.Good.Version, r.Next.Version = 5, 5
		out = append(out, edgesOf("Next's Version", r, version, []int{5, 6, 7, topVersion - 1, topVersion}, append([]int{0, 1, 4, topVersion + 1}, far...))...)
		out = append(out, edgesOf("Next's Size", r, size, []int{0, 1, 3, 5, topSize - 1, topSize}, append([]int{topSize + 1, topVersion, topVersion + 1}, far...))...)
		r.Trial = 0
		out = append(out, edgesOf("Next's Version without a trial", r, version, []int{5, topVersion}, append([]int{0, 4, topVersion + 1}, far...))...)
		r.Good.Version, r.Next.Version = topVersion, topVersion
		out = append(out, edgesOf("Next's Version behind the greatest one", r, version, []int{topVersion}, []int{0, 1, topVersion - 1, topVersion + 1})...)
		r.Next = r.Good
		out = append(out, edged{"Next is Good", r, false})
	}
	for _, r := range []api.Record{{Seq: 1, Good: image(0, 1, 0, 0)}, {Seq: 1, Good: image(1, 1, 0, 0)}} {
		// One field alone is not zero, with a trial left and without one: no Version, no Next.
		for _, left := range []int{0, 1, topTries} {
			for _, next := range []api.Image{image(1, 0, 0, 0), image(0, 0, 1, 0), image(0, 0, 0, 1), image(0, 0, 0, math.MaxUint32), image(1, 0, 5, 9), image(0, 0, topSize, 0), image(-1, 0, 0, 0), image(0, 0, -1, 0), image(0, -1, 0, 0)} {
				x := r
				x.Next, x.Trial = next, left
				out = append(out, edged{"Next without a Version", x, false})
			}
			// A Version alone is an image of no bytes in slot 0.
			x := r
			x.Next, x.Trial = image(0, 1, 0, 0), left
			out = append(out, edged{"Next's Version alone", x, r.Good.Slot == 1})
		}
	}
	return append(out, edged{"all zero", api.Record{}, false}, edged{"no Good", api.Record{Seq: 1, Next: image(1, 2, 5, 9), Trial: 3}, false})
}

// P25.1: Check of each edge, against answers written out; and the model by which the others are tried, too.
func TestCheckEdges(t *testing.T) {
	for _, c := range edges() {
		want := api.ErrBootRecord
		if c.may {
			want = api.OK
		}
		if err := boot.Check(c.r); err != want {
			t.Errorf("%s: Check(%v): %v", c.name, c.r, err)
		}
		if modelMay(c.r) != c.may {
			t.Errorf("%s: the model takes %v: %v", c.name, c.r, !c.may)
		}
	}
}

// P25.1: of all records whose fields are these few each, Check says by the words which may be.
func TestCheckFew(t *testing.T) {
	var l []api.Image
	for _, slot := range []int{-1, 0, 1, 2} {
		for _, version := range []int{0, 1, 2, topVersion, topVersion + 1} {
			for _, size := range []int{-1, 0, topSize, topSize + 1} {
				l = append(l, image(slot, version, size, 0), image(slot, version, size, 1))
			}
		}
	}
	may := 0
	for _, good := range l {
		for _, next := range l {
			for _, left := range []int{-1, 0, 1, topTries, topTries + 1} {
				r := api.Record{Seq: topSeq, Good: good, Next: next, Trial: left}
				if modelMay(r) {
					may++
				}
				if boot.Check(r) != modelCheck(r) {
					t.Fatalf("Check(%v): %v", r, boot.Check(r))
				}
			}
		}
	}
	// Of Good 2 slots, 3 versions, 2 sizes and 2 sums; without a Next, or with one of 6 pairs of versions, 2 sizes, 2 sums and 3 trials.
	if want := 2*3*2*2 + 2*6*2*2*2*2*3; may != want {
		t.Errorf("%d may be, not %d", may, want)
	}
}

// P25.1: Check and Encode of drawn records against the chapter's words.
func TestCheckDrawn(t *testing.T) {
	r := rolls(1)
	var count [2]int
	for range 200000 {
		x := r.any()
		want := modelCheck(x)
		if err := boot.Check(x); err != want {
			t.Fatalf("Check(%v): %v, not %v", x, err, want)
		}
		b, err := boot.Encode(x)
		if err != want {
			t.Fatalf("Encode(%v): %v, not %v", x, err, want)
		}
		if want == api.OK {
			count[0]++
			if string(b) != string(modelEncode(x)) {
				t.Fatalf("Encode(%v): % x", x, b)
			}
		} else {
			count[1]++
			if b != nil {
				t.Fatalf("Encode(%v): % x beside an error", x, b)
			}
		}
	}
	if count[0] < 50000 || count[1] < 50000 {
		t.Error(count)
	}
}
