package press

import (
	"bytes"
	"slices"
	"testing"

	"sapper/api"
	"sapper/lz"
)

// What yields the blocks may be left at any time, gone over again, and nested: how many bits stand ahead is counted anew each time.
func TestPiecesLeftAndGoneOverAgain(t *testing.T) {
	data := bytes.Repeat([]byte("abcbcd\xff\xfe"), 12)
	tokens, _ := lz.Parse(data, api.Look{Window: 3, Chain: 3})
	all := slices.Collect(pieces(data, tokens, 7))
	if len(all) < 9 {
		t.Fatalf("%d pieces", len(all))
	}
	seq := pieces(data, tokens, 7)
	for stop := range all {
		at := 0
		for p := range seq {
			if p.Part != all[at].Part || p.last != all[at].last {
				t.Errorf("piece %d: %+v, not %+v", at, p.Part, all[at].Part)
			}
			inner := 0
			for range seq {
				inner++
			}
			if inner != len(all) {
				t.Errorf("%d pieces, not %d", inner, len(all))
			}
			if at == stop {
				break
			}
			at++
		}
	}
}

// A piece has no room behind its end, in which another one's tokens or bytes stand.
func TestPiecesHaveNoRoom(t *testing.T) {
	data := []byte("abcabcabcxyz")
	tokens, _ := lz.Parse(data, api.Look{Window: 9, Chain: 9})
	for p := range pieces(data, tokens, 2) {
		if cap(p.tokens) != len(p.tokens) || cap(p.data) != len(p.data) {
			t.Errorf("%+v: room for %d and %d", p.Part, cap(p.tokens), cap(p.data))
		}
	}
}
