package purse_test

import (
	"math"
	"reflect"
	"slices"
	"testing"

	"sapper/api"
	"sapper/purse"
)

// R5: a purse that no call made, nil and zero, at each of its functions, over and over: ErrMade stands ahead of all other errors.
func TestUnmade(t *testing.T) {
	for kind, p := range map[string]*purse.Purse{"nil": nil, "zero": {}, "zero by new": new(purse.Purse)} {
		for _, name := range []string{"", "a", "a", "b", "\xff"} {
			for _, n := range []int{0, 1, 10, top, top + 1, -1, math.MinInt, math.MaxInt} {
				expect(t, kind+": Open", p.Open(name, n), api.ErrMade)
				expect(t, kind+": Hold", p.Hold(name, n), api.ErrMade)
				expectTold(t, p, 0, 0, 0)
				if p != nil && *p != (purse.Purse{}) {
					t.Errorf("%s: it has changed", kind)
				}
			}
		}
	}
}

// R1: a purse that is written over with one that no call made is such a one; one that New makes later has no part in it.
func TestWrittenOver(t *testing.T) {
	p := opened(t, "a", "b")
	ok(t, p.Hold("a", 3))
	*p = purse.Purse{}
	expect(t, "Open", p.Open("c", 1), api.ErrMade)
	expect(t, "Hold", p.Hold("a", 1), api.ErrMade)
	expectTold(t, p, 0, 0, 0)
	expectTold(t, mustNew(t), 0, 0, 0)
}

// The chapter's list of calls: a purse has no others, those of its lock neither, and nothing that is to be seen.
func TestCalls(t *testing.T) {
	var got []string
	x := reflect.TypeFor[*purse.Purse]()
	for i := range x.NumMethod() {
		got = append(got, x.Method(i).Name)
	}
	if !slices.Equal(got, []string{"Held", "Hold", "Most", "Names", "Open", "Peak"}) {
		t.Errorf("%v", got)
	}
	for i := range x.Elem().NumField() {
		if f := x.Elem().Field(i); f.IsExported() || f.Anonymous {
			t.Errorf("%s is to be seen", f.Name)
		}
	}
}

// The error's number, as the chapter has it.
func TestErrors(t *testing.T) {
	p := opened(t, "a")
	for name, c := range map[string]struct {
		err  api.Errno
		want int
	}{
		"a name that is there":     {p.Open("a", 1), 230},
		"a name that is not there": {p.Hold("b", 1), 230},
		"a wrong most":             {p.Open("b", -1), 1},
		"a wrong n":                {p.Hold("a", 11), 1},
		"a purse that is none":     {(*purse.Purse)(nil).Hold("a", 1), 2},
	} {
		if int(c.err) != c.want {
			t.Errorf("%s: %d, not %d", name, int(c.err), c.want)
		}
	}
}
