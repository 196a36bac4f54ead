package purse_test

import (
	"fmt"
	"math"
	"slices"
	"strings"
	"testing"

	"sapper/api"
	"sapper/purse"
)

// The chapter's examples 1 and 2.
func TestExamples(t *testing.T) {
	p := mustNew(t)
	ok(t, p.Open("a", 10), p.Open("b", 5), p.Hold("a", 7), p.Hold("b", 5), p.Hold("a", 2))
	expectTold(t, p, 7, 12, 15, "a", "b")
	expect(t, "a again", p.Open("a", 1), api.ErrPurseName)
	expect(t, "c", p.Hold("c", 0), api.ErrPurseName)
	expect(t, "6 of 5", p.Hold("b", 6), api.ErrArg)
	expect(t, "-1", p.Open("d", -1), api.ErrArg)
	expectTold(t, p, 7, 12, 15, "a", "b")
}

// P23.1: a new purse has no holders: nothing is told, and each Hold is refused.
func TestNewIsEmpty(t *testing.T) {
	p := mustNew(t)
	expectTold(t, p, 0, 0, 0)
	for _, name := range []string{"", "a", "\x00"} {
		expect(t, "Hold", p.Hold(name, 0), api.ErrPurseName)
	}
	expectTold(t, p, 0, 0, 0)
}

// P23.1: most at its ends, and beyond them; a refused one leaves no holder.
func TestOpenMost(t *testing.T) {
	for _, c := range []struct {
		most int
		err  api.Errno
	}{
		{0, api.OK}, {1, api.OK}, {2, api.OK}, {top - 1, api.OK}, {top, api.OK},
		{top + 1, api.ErrArg}, {-1, api.ErrArg}, {math.MinInt, api.ErrArg}, {math.MaxInt, api.ErrArg}, {math.MinInt + 1, api.ErrArg}, {1 << 41, api.ErrArg},
	} {
		p := mustNew(t)
		expect(t, fmt.Sprint("Open of ", c.most), p.Open("a", c.most), c.err)
		if c.err != api.OK {
			expectTold(t, p, 0, 0, 0)
			expect(t, "Hold of a refused one", p.Hold("a", 0), api.ErrPurseName)
			ok(t, p.Open("a", 3))
			expectTold(t, p, 0, 0, 3, "a")
			continue
		}
		expectTold(t, p, 0, 0, c.most, "a")
		ok(t, p.Hold("a", c.most))
		expectTold(t, p, c.most, c.most, c.most, "a")
		expect(t, "one more", p.Hold("a", c.most+1), api.ErrArg)
		ok(t, p.Hold("a", 0))
		expectTold(t, p, 0, c.most, c.most, "a")
	}
}

// P23.1: names of any bytes are names, each of its own: the empty one, such as are no letters, and such as begin others.
func TestAnyNames(t *testing.T) {
	names := []string{"", "\x00", "\x00\x00", "\n", " ", "A", "a", "a\x00", "a ", "aa", "ab", "abc", "b", "\x7f", "\x80", "\xc3", "\xc3\xa9", "\xed\xa0\x80", "\xff", "\xff\xff", strings.Repeat("z", 100000), strings.Repeat("z", 100000) + "y"}
	p, m := mustNew(t), &model{}
	for i, name := range names {
		expect(t, "ahead of Open", p.Hold(name, 0), api.ErrPurseName)
		ok(t, p.Open(name, 100+i), m.Open(name, 100+i))
		expectSame(t, p, m)
	}
	for i, name := range names {
		expect(t, "again", p.Open(name, 100+i), api.ErrPurseName)
		expect(t, "too much", p.Hold(name, 101+i), api.ErrArg)
		ok(t, p.Hold(name, 100+i), m.Hold(name, 100+i))
		expectSame(t, p, m)
	}
}

// P23.1: a name that is there already, with the same most and with others: nothing has changed of its holder, nor of the others.
func TestSameName(t *testing.T) {
	for _, most := range []int{10, 0, 1, 7, 9, 11, 100, top} {
		p := opened(t, "a", "b")
		ok(t, p.Hold("a", 8), p.Hold("a", 7))
		expect(t, fmt.Sprint("again with ", most), p.Open("a", most), api.ErrPurseName)
		expectTold(t, p, 7, 8, 20, "a", "b")
		ok(t, p.Hold("a", 10))
		expect(t, "11 of 10", p.Hold("a", 11), api.ErrArg)
		expectTold(t, p, 10, 10, 20, "a", "b")
	}
}

// P23.1: of two things that are wrong the first one is told: most ahead of the name.
func TestOpenOrder(t *testing.T) {
	p := opened(t, "a")
	ok(t, p.Hold("a", 3))
	for _, most := range []int{-1, math.MinInt, top + 1, math.MaxInt} {
		expect(t, "wrong most, a name that is there", p.Open("a", most), api.ErrArg)
	}
	expectTold(t, p, 3, 3, 10, "a")
}

// P23.1: 1024 holders and no more: the next one is refused by ErrArg, also with a name that is there; the holders go on.
func TestHolders(t *testing.T) {
	p, names := mustNew(t), numbered(1026)
	for i, name := range names[:1024] {
		if i > 0 { // such as are refused do not count
			expect(t, "again", p.Open(names[i/2], 1), api.ErrPurseName)
			expect(t, "wrong most", p.Open(name, -1), api.ErrArg)
		}
		if err := p.Open(name, i); err != api.OK {
			t.Fatalf("holder %d: %v", i+1, err)
		}
	}
	most := 1024 * 1023 / 2
	expectTold(t, p, 0, 0, most, names[:1024]...)
	for _, n := range []int{0, 1, top, -1, top + 1} {
		expect(t, "the 1025th", p.Open(names[1024], n), api.ErrArg)
		expect(t, "another one", p.Open(names[1025], n), api.ErrArg)
		expect(t, "the first again", p.Open(names[0], n), api.ErrArg)
		expect(t, "the last again", p.Open(names[1023], n), api.ErrArg)
	}
	expect(t, "Hold of the 1025th", p.Hold(names[1024], 0), api.ErrPurseName)
	expectTold(t, p, 0, 0, most, names[:1024]...)
	ok(t, p.Hold(names[1023], 1023), p.Hold(names[5], 5))
	expectTold(t, p, 1028, 1028, most, names[:1024]...)
}

// P23.2, R6: the greatest sums that there can be.
func TestGreatest(t *testing.T) {
	p, names := mustNew(t), numbered(1024)
	for _, name := range names {
		ok(t, p.Open(name, top))
	}
	for i, name := range names {
		ok(t, p.Hold(name, top))
		if p.Held() != (i+1)*top || p.Peak() != (i+1)*top {
			t.Fatalf("behind %d: %d, %d", i+1, p.Held(), p.Peak())
		}
	}
	expectTold(t, p, 1<<50, 1<<50, 1<<50, names...)
}

// P23.2: Most behind each Open, whatever is held.
func TestMost(t *testing.T) {
	p, want := mustNew(t), 0
	for i, most := range []int{5, 0, 1, top, 100, top - 1} {
		name := string(rune('a' + i))
		ok(t, p.Open(name, most))
		want += most
		if p.Most() != want {
			t.Errorf("behind %d: %d, not %d", i+1, p.Most(), want)
		}
		ok(t, p.Hold(name, most/2))
		if p.Most() != want {
			t.Errorf("behind Hold %d: %d, not %d", i+1, p.Most(), want)
		}
	}
}

// P23.2: names opened rising, falling and in drawn orders are told rising, over and over.
func TestNames(t *testing.T) {
	expectTold(t, mustNew(t), 0, 0, 0)
	expectTold(t, opened(t, "x"), 0, 0, 10, "x")
	expectTold(t, opened(t, ""), 0, 0, 10, "")
	r := rolls(1)
	short := []string{"", "\x00", "A", "B", "a", "a\x00", "aa", "ab", "b", "\x7f", "\x80", "\xff", "\xff\x00"}
	for _, rising := range [][]string{short, {"9", "a", "\xc3\xa9"}, numbered(300)} {
		falling := slices.Clone(rising)
		slices.Reverse(falling)
		orders := [][]string{rising, falling}
		for range 30 {
			orders = append(orders, r.mixed(rising))
		}
		for _, order := range orders {
			p := opened(t, order...)
			for range 5 {
				expectTold(t, p, 0, 0, 10*len(rising), rising...)
			}
		}
	}
}

// R3: the list that Names answered, and its spare room, may be written over and added to; what it told stays, whatever is opened later.
func TestNamesAreNew(t *testing.T) {
	p := opened(t, "b", "a", "c")
	first, second := p.Names(), p.Names()
	for i := range first[:cap(first)] {
		first[:cap(first)][i] = "z"
	}
	_ = append(first[:1], "x", "y")
	expectTold(t, p, 0, 0, 30, "a", "b", "c")
	ok(t, p.Open("aa", 1), p.Hold("c", 2))
	if !slices.Equal(second, []string{"a", "b", "c"}) {
		t.Errorf("what was told became %q", second)
	}
	expectTold(t, p, 2, 2, 31, "a", "aa", "b", "c")
	expect(t, "z", p.Hold("z", 0), api.ErrPurseName)
}

// R3: a name that was made of bytes which are written over behind Open stays.
func TestNameStays(t *testing.T) {
	p := mustNew(t)
	b := []byte("abc")
	for i := range b {
		ok(t, p.Open(string(b[:i+1]), i))
	}
	copy(b, "xyz")
	expectTold(t, p, 0, 0, 3, "a", "ab", "abc")
}

// The chapter's list of calls is reached by a purse that was copied, too: it is the same purse.
func TestCopied(t *testing.T) {
	p := opened(t, "a")
	q := new(purse.Purse)
	*q = *p
	ok(t, q.Hold("a", 4), p.Open("b", 1))
	expectTold(t, p, 4, 4, 11, "a", "b")
	expectTold(t, q, 4, 4, 11, "a", "b")
}
