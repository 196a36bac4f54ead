package press_test

import (
	"bytes"
	"math"
	"slices"
	"testing"

	"sapper/api"
	"sapper/block"
	"sapper/lz"
	"sapper/press"
)

// lits: bytes.
func lits(s string) []api.Token {
	var out []api.Token
	for i := range len(s) {
		out = append(out, api.Token{Lit: s[i]})
	}
	return out
}

// match: so many bytes so far ahead.
func match(n, dist int) api.Token { return api.Token{Len: n, Dist: dist} }

// many: a token so many times.
func many(n int, t api.Token) []api.Token { return slices.Repeat([]api.Token{t}, n) }

// meanUp: the least whole number that is not below the mean.
func meanUp(l []int, none int) int {
	if len(l) == 0 {
		return none
	}
	sum := 0
	for _, v := range l {
		sum += v
	}
	up := 0
	for up*len(l) < sum {
		up++
	}
	return up
}

// prices: what tokens that may be cost, as the chapter says it.
func prices(l []api.Token) api.Price {
	if len(l) > 65536 {
		l = l[:65536]
	}
	lit, dist, _ := block.OwnLens(l...)
	var ofBytes, ofMatches []int
	for _, t := range l {
		if t.Len == 0 {
			ofBytes = append(ofBytes, lit[t.Lit])
			continue
		}
		symbol, more, _, _ := block.LenSymbol(t.Len)
		far, _, _, _ := block.DistSymbol(t.Dist)
		ofMatches = append(ofMatches, lit[symbol]+more+dist[far])
	}
	return api.Price{Lit: meanUp(ofBytes, 8), Match: meanUp(ofMatches, 20), Far: 1}
}

// rounds: the tokens of each round, from 0 to n.
func rounds(data []byte, o api.Press, n int) [][]api.Token {
	tokens, _ := lz.Parse(data, o.Look)
	out := [][]api.Token{tokens}
	for range n {
		tokens, _, _ = lz.Cheapest(data, o.Look, prices(tokens))
		out = append(out, tokens)
	}
	return out
}

// P10.7

func TestPricesByHand(t *testing.T) {
	for i, c := range []struct {
		l    []api.Token
		want api.Price
	}{
		{nil, api.Price{Lit: 8, Match: 20, Far: 1}},
		{lits("aab"), api.Price{Lit: 2, Match: 20, Far: 1}},
		// One bit each: the byte's and the end's.
		{lits("a"), api.Price{Lit: 1, Match: 20, Far: 1}},
		{lits("aaaaaaaaa"), api.Price{Lit: 1, Match: 20, Far: 1}},
		// Two bits each, with the end's: a mean that is whole.
		{lits("abc"), api.Price{Lit: 2, Match: 20, Far: 1}},
		// 1 bit, 2 bits, 2 bits of the end: nine of one and one of two are still more than one.
		{lits("aaaaaaaaab"), api.Price{Lit: 2, Match: 20, Far: 1}},
		// Three bits each: seven bytes, and the end.
		{lits("abcdefg"), api.Price{Lit: 3, Match: 20, Far: 1}},
		// The length's code 1, its more bits, the distance's code 1; none of the distance's more bits.
		{[]api.Token{match(3, 1)}, api.Price{Lit: 8, Match: 2, Far: 1}},
		{[]api.Token{match(3, 32768)}, api.Price{Lit: 8, Match: 2, Far: 1}},
		{[]api.Token{match(12, 6)}, api.Price{Lit: 8, Match: 3, Far: 1}},
		{[]api.Token{match(257, 1)}, api.Price{Lit: 8, Match: 7, Far: 1}},
		{[]api.Token{match(258, 1)}, api.Price{Lit: 8, Match: 2, Far: 1}},
		// 2 and 3 bits: 2.5 in the mean.
		{[]api.Token{match(11, 1), match(12, 1), match(12, 1)}, api.Price{Lit: 8, Match: 3, Far: 1}},
		// 1 bit of the length; 1, 1, 1 and 2, 2 of the distances (one of three kinds): 2 and 3 and 3.
		{[]api.Token{match(3, 1), match(3, 1), match(3, 1), match(3, 2), match(3, 3)}, api.Price{Lit: 8, Match: 3, Far: 1}},
		// Of a: 1; of the length and of the end 2 each.
		{append(lits("aaa"), match(3, 1)), api.Price{Lit: 1, Match: 3, Far: 1}},
		{append(lits("a"), match(3, 1), match(3, 1), match(3, 1)), api.Price{Lit: 2, Match: 2, Far: 1}},
	} {
		if got, err := press.Prices(c.l...); err != api.OK || got != c.want {
			t.Errorf("row %d: %+v %v, not %+v", i, got, err, c.want)
		}
	}
}

func TestPricesOfManyLists(t *testing.T) {
	r := rolls(30)
	for range 400 {
		var l []api.Token
		kinds, matches := 1+r.below(256), r.below(4)
		for range r.below(60) {
			if r.below(4) < matches {
				l = append(l, match(3+r.below(256), 1+r.below(1+r.below(32768))))
			} else {
				l = append(l, api.Token{Lit: byte(r.below(kinds))})
			}
		}
		if got, err := press.Prices(l...); err != api.OK || got != prices(l) {
			t.Errorf("%v: %+v %v, not %+v", l, got, err, prices(l))
		}
	}
}

// The first MaxBlock tokens alone have a part in it.
func TestPricesOfVeryMany(t *testing.T) {
	r := rolls(31)
	first := lits(string(r.bytes(65536, 0, 200)))
	want := prices(first)
	for i, l := range [][]api.Token{
		first,
		append(slices.Clone(first), match(3, 1)),
		append(slices.Clone(first), many(70000, api.Token{Lit: 255})...),
		append(slices.Clone(first), first...),
	} {
		if got, err := press.Prices(l...); err != api.OK || got != want {
			t.Errorf("row %d: %+v %v, not %+v", i, got, err, want)
		}
	}
	// The last of them has.
	l := append(many(65535, api.Token{Lit: 'a'}), match(258, 1))
	if got, err := press.Prices(l...); err != api.OK || got != (api.Price{Lit: 1, Match: 3, Far: 1}) {
		t.Errorf("%+v %v", got, err)
	}
	if got, err := press.Prices(l[:65535]...); err != api.OK || got != (api.Price{Lit: 1, Match: 20, Far: 1}) {
		t.Errorf("%+v %v", got, err)
	}
}

func TestPricesRefusals(t *testing.T) {
	for _, wrong := range []api.Token{
		{Len: 2, Dist: 1},
		{Len: 259, Dist: 1},
		{Len: -1, Dist: 1},
		{Len: 3, Dist: 0},
		{Len: 3, Dist: 32769},
		{Len: 3, Dist: -1},
		{Len: 0, Dist: 1},
		{Lit: 1, Len: 3, Dist: 1},
		{Len: math.MaxInt, Dist: math.MinInt},
	} {
		for i, l := range [][]api.Token{
			{wrong},
			append(lits("abc"), wrong),
			append([]api.Token{wrong}, lits("abc")...),
			append(many(65535, api.Token{Lit: 'a'}), wrong, api.Token{Lit: 'a'}),
		} {
			if got, err := press.Prices(l...); err != api.ErrBlockToken || got != (api.Price{}) {
				t.Errorf("%+v, row %d: %+v %v", wrong, i, got, err)
			}
		}
		l := append(many(65536, api.Token{Lit: 'a'}), wrong)
		if got, err := press.Prices(l...); err != api.OK || got != (api.Price{Lit: 1, Match: 20, Far: 1}) {
			t.Errorf("%+v behind MaxBlock tokens: %+v %v", wrong, got, err)
		}
	}
}

// P10.8

func TestSqueezeExamples(t *testing.T) {
	o := api.Press{Look: api.Look{Window: 100, Chain: 10}, Block: 5}
	for n := range 9 {
		if b, round, err := press.Squeeze(nil, o, n); err != api.OK || round != 0 || string(b) != "\x03\x00" {
			t.Errorf("none, %d rounds: %x %d %v", n, b, round, err)
		}
	}
	if b, round, err := press.Squeeze([]byte("a"), o, 9); err != api.ErrArg || round != 0 || len(b) != 0 {
		t.Errorf("9 rounds: %x %d %v", b, round, err)
	}
}

func TestSqueezeRefusals(t *testing.T) {
	good := api.Press{Look: api.Look{Window: 100, Chain: 10}, Block: 5}
	for _, n := range []int{-1, 9, 10, math.MinInt, math.MaxInt} {
		for _, data := range [][]byte{nil, []byte("abcabcabc")} {
			if b, round, err := press.Squeeze(data, good, n); err != api.ErrArg || round != 0 || len(b) != 0 {
				t.Errorf("%d rounds: %x %d %v", n, b, round, err)
			}
			// The options stand ahead of the rounds.
			if b, round, err := press.Squeeze(data, api.Press{Look: good.Look}, n); err != api.ErrPressOption || round != 0 || len(b) != 0 {
				t.Errorf("Block 0, %d rounds: %x %d %v", n, b, round, err)
			}
		}
	}
}

func TestSqueezeOfNoRounds(t *testing.T) {
	each(func(data []byte, o api.Press) {
		want, _ := pressed(t, data, o)
		if b, round, err := press.Squeeze(data, o, 0); err != api.OK || round != 0 || !bytes.Equal(b, want) {
			t.Errorf("%+v of %q: %x %d %v, not %x", o, data, b, round, err, want)
		}
	})
}

// squeezable: bytes and options with which all sorts of rounds are the best.
func squeezable(tell func(data []byte, o api.Press)) {
	for _, data := range texts() {
		for _, k := range looks() {
			tell(data, api.Press{Look: k, Block: 50})
		}
	}
	r := rolls(32)
	for range 60 {
		data := r.patched(20+r.below(300), 2+r.below(30))
		k := api.Look{Window: 1 + r.below(400), Chain: r.below(5), Lazy: r.below(2) > 0}
		tell(data, api.Press{Look: k, Block: 1 + r.below(300)})
	}
}

// P10.8, P10.9, with each number of rounds.
func TestSqueezeAsTheChapterSays(t *testing.T) {
	won := map[int]int{}
	again := 0 // how often a later round's stream was as short as the shortest, but another one
	squeezable(func(data []byte, o api.Press) {
		var want []byte
		wantRound := 0
		for n, tokens := range rounds(data, o, 8) {
			s, _ := written(data, tokens, o.Block)
			if n > 0 && len(s) == len(want) && !bytes.Equal(s, want) {
				again++
			}
			if n == 0 || len(s) < len(want) {
				want, wantRound = s, n
			}
			b, round, err := press.Squeeze(data, o, n)
			if err != api.OK || round != wantRound || !bytes.Equal(b, want) {
				t.Errorf("%+v of %q, %d rounds: %x %d %v, not %x %d", o, data, n, b, round, err, want, wantRound)
			}
		}
		won[wantRound]++
	})
	if len(won) < 4 || again < 20 {
		t.Errorf("the best rounds are %v, others as short %d times: too little was tried", won, again)
	}
}

// P10.9

func TestSqueezeIsNeverLonger(t *testing.T) {
	squeezable(func(data []byte, o api.Press) {
		b, _ := pressed(t, data, o)
		least := len(b)
		for n := range 9 {
			s, round, err := press.Squeeze(data, o, n)
			if err != api.OK || len(s) > least || round > n {
				t.Errorf("%+v of %q, %d rounds: %d bytes of round %d, %v; ahead %d", o, data, n, len(s), round, err, least)
			}
			least = len(s)
		}
	})
}

func TestSqueezeIsAStreamOfTheData(t *testing.T) {
	squeezable(func(data []byte, o api.Press) {
		for _, n := range []int{0, 1, 8} {
			b, _, _ := press.Squeeze(data, o, n)
			segs, err := block.Blocks(b, o.Look.Window)
			if err != api.OK {
				t.Fatalf("%+v of %q, %d rounds: %v", o, data, n, err)
			}
			var all []api.Token
			for i, s := range segs {
				if s.Last != (i == len(segs)-1) {
					t.Errorf("%+v of %q, %d rounds: block %d of %d is last: %v", o, data, n, i, len(segs), s.Last)
				}
				all = append(all, s.Tokens...)
			}
			back, err := lz.Expand(o.Look.Window, all...)
			if err != api.OK || !bytes.Equal(back, data) || !bytes.Equal(unpressed(t, b), data) {
				t.Errorf("%+v of %q, %d rounds: %q", o, data, n, back)
			}
		}
	})
}

// More than MaxBlock tokens: the prices are those of the first ones.
func TestSqueezeOfManyTokens(t *testing.T) {
	r := rolls(33)
	data := slices.Concat(r.bytes(66000, 0, 200), r.patched(30000, 9))
	o := api.Press{Look: api.Look{Window: 2000, Chain: 2}, Block: 65536}
	var want []byte
	wantRound := 0
	for n, tokens := range rounds(data, o, 2) {
		if s, _ := written(data, tokens, o.Block); n == 0 || len(s) < len(want) {
			want, wantRound = s, n
		}
	}
	b, round, err := press.Squeeze(data, o, 2)
	if err != api.OK || round != wantRound || !bytes.Equal(b, want) {
		t.Errorf("%d bytes of round %d, %v; not %d of round %d", len(b), round, err, len(want), wantRound)
	}
}
