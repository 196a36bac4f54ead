package scan_test

import (
	"slices"
	"testing"

	"sapper/api"
	"sapper/scan"
	"sapper/suffix"
)

// index: of data that may be.
func index(t *testing.T, d []byte) *suffix.Index {
	t.Helper()
	x, err := suffix.New(d)
	if err != api.OK {
		t.Fatal("New:", err)
	}
	return x
}

// steps: of images that may be.
func steps(t *testing.T, x *suffix.Index, next []byte) []api.Step {
	t.Helper()
	l, err := scan.Steps(x, next)
	if err != api.OK {
		t.Fatalf("Steps to %.40q: %v", next, err)
	}
	return l
}

// holdSums: P15.5.
func holdSums(t *testing.T, name string, old, next []byte, l []api.Step) {
	t.Helper()
	place, total := 0, 0
	for i, s := range l {
		if s.Add < 0 || s.Copy < 0 || s.Add > 0 && (place < 0 || place > len(old)-s.Add) {
			t.Fatalf("%s: the step %d, %v, at place %d of %d bytes", name, i, s, place, len(old))
		}
		place += s.Add + s.Seek
		total += s.Add + s.Copy
	}
	if total != len(next) {
		t.Fatalf("%s: %d bytes, not %d", name, total, len(next))
	}
	if len(l) > 0 && l[len(l)-1].Seek != 0 {
		t.Fatalf("%s: the last step seeks: %v", name, l[len(l)-1])
	}
}

// The chapter's example 4.
func TestStepsExamples(t *testing.T) {
	if l := steps(t, index(t, nil), []byte("abc")); !slices.Equal(l, []api.Step{{Copy: 3}}) {
		t.Error("from nothing:", l)
	}
	if l := steps(t, index(t, []byte("abcdefghij")), []byte("abcdefghij")); !slices.Equal(l, []api.Step{{Add: 10}}) {
		t.Error("to the same:", l)
	}
	for _, d := range words() {
		if l := steps(t, index(t, d), nil); len(l) != 0 {
			t.Errorf("from %q to nothing: %v", d, l)
		}
	}
}

// P15.4: the edges, written out and reckoned by hand.
func TestStepsEdges(t *testing.T) {
	const A, B, C = "ABCDEFGHIJ", "0123456789", "klmnopqrst" // each of ten bytes
	for _, c := range []struct {
		name, old, next string
		want            [][3]int
	}{
		{"nothing to nothing", "", "", nil},
		{"nothing to one byte", "", "a", [][3]int{{0, 1, 0}}},
		{"one byte to nothing", "a", "", nil},
		{"one byte to itself", "a", "a", [][3]int{{1, 0, 0}}},
		{"one byte to another", "a", "b", [][3]int{{0, 1, 0}}},
		{"one byte that stands elsewhere", "ab", "b", [][3]int{{0, 1, 0}}},
		{"itself, of 8", A[:8], A[:8], [][3]int{{8, 0, 0}}},
		{"itself, of 9", A[:9], A[:9], [][3]int{{9, 0, 0}}},
		{"itself, of 10", A, A, [][3]int{{10, 0, 0}}},
		{"its first part", A + B, A, [][3]int{{10, 0, 0}}},
		{"its last part", A + B, B, [][3]int{{0, 0, 10}, {10, 0, 0}}},
		{"moved", A + B, B + A, [][3]int{{0, 0, 10}, {10, 0, -20}, {10, 0, 0}}},
		{"moved, parts of 9", A[:9] + B[:9], B[:9] + A[:9], [][3]int{{0, 0, 9}, {9, 0, -18}, {9, 0, 0}}},
		{"moved, parts of 8", A[:8] + B[:8], B[:8] + A[:8], [][3]int{{0, 16, 0}}},
		{"doubled", A, A + A, [][3]int{{10, 0, -10}, {10, 0, 0}}},
		{"doubled, of 8", A[:8], A[:8] + A[:8], [][3]int{{8, 8, 0}}},
		{"left out", A + B + C, A + C, [][3]int{{10, 0, 10}, {10, 0, 0}}},
		{"left out at the end", A + B + C, A + B, [][3]int{{20, 0, 0}}},
		{"put in", A + B, A + "xyz" + B, [][3]int{{10, 3, 0}, {10, 0, 0}}},
		{"put in ahead", A, "xyz" + A, [][3]int{{0, 3, 0}, {10, 0, 0}}},
		{"put in behind", A, A + "xyz", [][3]int{{10, 3, 0}}},
		{"turned", A, "JIHGFEDCBA", [][3]int{{0, 10, 0}}},
		{"one byte changed", A + B, A + "x" + B[1:], [][3]int{{20, 0, 0}}},
		{"the first byte changed", A, "x" + A[1:], [][3]int{{10, 0, 0}}},
		{"the last byte changed", A, A[:9] + "x", [][3]int{{9, 1, 0}}},
		{"all alike, longer", A + "aaaaaaaaaaaa", A + "aaaaaaaaaaaaaaaaaaaaaaaa", [][3]int{{22, 0, -12}, {12, 0, 0}}},
	} {
		holdWritten(t, c.name, c.old, c.next, c.want)
	}
}

// P15.4, part 2: SCORE just 8 or 9 below N, where the bytes at SHIFT are some of those of the match.
func TestStepsScore(t *testing.T) {
	const S = "abcdefghijkl"
	for _, c := range []struct {
		name, old, next string
		want            [][3]int
	}{
		{"N is SCORE + 8", "a##d##g##j##" + S, S, [][3]int{{1, 11, 0}}},
		{"N is SCORE + 9", "a##d##g#####" + S, S, [][3]int{{0, 0, 12}, {12, 0, 0}}},
		{"N is SCORE + 8, SCORE is 0", "########" + S[:8], S[:8], [][3]int{{0, 8, 0}}},
		{"N is SCORE + 9, SCORE is 0", "#########" + S[:9], S[:9], [][3]int{{0, 0, 9}, {9, 0, 0}}},
		{"SCORE falls, then N is SCORE + 9", "a##d##g##j##" + S + "#" + S[1:] + "m", S + "m", [][3]int{{1, 0, 24}, {12, 0, 0}}},
		{"SCORE falls, then N is SCORE + 8", "a##d##g##j##" + S + "#" + S[1:], S, [][3]int{{1, 11, 0}}},
		{"N is SCORE behind bytes that are nowhere", S, "xy" + S[2:], [][3]int{{12, 0, 0}}},
	} {
		holdWritten(t, c.name, c.old, c.next, c.want)
	}
}

// P15.4, part 3: what goes forward and what goes back overlap: the first alone has the last byte, so that F stays; both have all, so that F falls by all; some.
func TestStepsOverlap(t *testing.T) {
	const A, C = "ABCDEFGHIJ", "klmnopqrst"
	next := A + "abcd" + C
	for _, c := range []struct {
		name, old string
		want      [][3]int
	}{
		{"F stays", A + "abcd" + "-----" + "abcX" + C, [][3]int{{14, 0, 9}, {10, 0, 0}}},
		{"F falls by all", A + "abcd" + "-----" + "abcd" + C, [][3]int{{10, 0, 9}, {14, 0, 0}}},
		{"F falls by some", A + "abcd" + "-----" + "abXd" + C, [][3]int{{13, 0, 9}, {11, 0, 0}}},
		{"they just meet", A + "ab--" + "-----" + "--cd" + C, [][3]int{{12, 0, 9}, {12, 0, 0}}},
		{"a gap", A + "a---" + "-----" + "---d" + C, [][3]int{{11, 2, 11}, {11, 0, 0}}},
	} {
		holdWritten(t, c.name, c.old, next, c.want)
	}
}

// holdWritten: the steps are those that were written out (Add, Copy, Seek), which the chapter's words say, too.
func holdWritten(t *testing.T, name, old, next string, rows [][3]int) {
	t.Helper()
	var want []api.Step
	for _, row := range rows {
		want = append(want, api.Step{Add: row[0], Copy: row[1], Seek: row[2]})
	}
	l := steps(t, index(t, []byte(old)), []byte(next))
	if !slices.Equal(l, want) {
		t.Errorf("%s: from %q to %q: %v, not %v", name, old, next, l, want)
	}
	if model := stepsOf([]byte(old), []byte(next), literal([]byte(old), []byte(next), func(string) {})); !slices.Equal(model, want) {
		t.Errorf("%s: the chapter's words: %v, not %v", name, model, want)
	}
	holdSums(t, name, []byte(old), []byte(next), l)
}

// P15.4, P15.5: of all images of pairs; and each thing that may come up does so over and over.
func TestSteps(t *testing.T) {
	kinds := map[string]int{}
	for _, c := range pairs() {
		want := stepsOf(c.old, c.next, literal(c.old, c.next, func(kind string) { kinds[kind]++ }))
		if l := steps(t, index(t, c.old), c.next); !slices.Equal(l, want) {
			t.Fatalf("from %q to %q: %v, not %v", c.old, c.next, l, want)
		}
		holdSums(t, string(c.next), c.old, c.next, want)
	}
	for _, kind := range []string{
		"N is 0", "N is SCORE", "N is less than SCORE + 8", "N is SCORE + 8", "N is SCORE + 9", "N is more than SCORE + 9",
		"SCORE falls", "beyond old", "F stays", "F falls by all", "F falls by some",
	} {
		if kinds[kind] < 100 {
			t.Errorf("%s: %d times", kind, kinds[kind])
		}
	}
	// AT is never less than it was at the last match, SCORE counts some of N bytes, and Split never tells more than O: so these can't be.
	for _, kind := range []string{"below 0", "N is less than SCORE", "F grows"} {
		if kinds[kind] != 0 {
			t.Errorf("%s: %d times", kind, kinds[kind])
		}
	}
}

// P15.6: an image to itself; from nothing.
func TestStepsToItself(t *testing.T) {
	for n := range 40 {
		for _, s := range shapes(max(1, n)) {
			d := s.data[:n]
			l := steps(t, index(t, d), d)
			if n > 0 && !slices.Equal(l, []api.Step{{Add: n}}) || n == 0 && len(l) != 0 {
				t.Errorf("%s, of %d, to itself: %v", s.name, n, l)
			}
			l = steps(t, index(t, nil), d)
			if n > 0 && !slices.Equal(l, []api.Step{{Copy: n}}) || n == 0 && len(l) != 0 {
				t.Errorf("%s, of %d, from nothing: %v", s.name, n, l)
			}
		}
	}
}

// P15.4: the same steps, whether the index was made or loaded.
func TestStepsOfLoaded(t *testing.T) {
	for _, c := range drawn(50) {
		x := index(t, c.old)
		loaded, err := suffix.Load(c.old, x.Array())
		if err != api.OK {
			t.Fatal("Load:", err)
		}
		if a, b := steps(t, x, c.next), steps(t, loaded, c.next); !slices.Equal(a, b) {
			t.Fatalf("from %q to %q: %v, loaded %v", c.old, c.next, a, b)
		}
	}
}
