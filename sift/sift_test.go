package sift_test

import (
	"math"
	"math/big"
	"slices"
	"testing"

	"joinery/api"
	"joinery/sift"
)

// edges are the least and the greatest numbers, those around 0, around powers of 2, and around each half of the range.
func edges() []int64 {
	return []int64{
		math.MinInt64, math.MinInt64 + 1, math.MinInt64 + 2, -1<<62 - 1, -1 << 62, -1<<62 + 1, -1 << 32, -1000, -7, -5, -3, -2, -1,
		0, 1, 2, 3, 4, 5, 6, 7, 1000, 1<<32 - 1, 1 << 32, 1<<62 - 1, 1 << 62, 1<<62 + 1, math.MaxInt64 - 2, math.MaxInt64 - 1, math.MaxInt64,
	}
}

// kinds are the kinds that there are.
func kinds() []uint8 {
	return []uint8{api.PrAll, api.PrKey, api.PrVal, api.PrMod, api.PrBits}
}

// strangers are numbers of kinds that there are not, 0 and 255 among them.
func strangers() []uint8 {
	l := []uint8{0}
	for k := api.Preds + 1; k <= math.MaxUint8; k++ {
		l = append(l, uint8(k))
	}
	return l
}

// bothWays is a predicate, and the same one the other way round.
func bothWays(p api.Pred) []api.Pred {
	p.Not = false
	not := p
	not.Not = true
	return []api.Pred{p, not}
}

// anyPreds are predicates of each kind that there is, by any two edges, each either way round: such as may be, and such as may not.
func anyPreds() []api.Pred {
	var l []api.Pred
	for _, kind := range kinds() {
		for _, a := range edges() {
			for _, b := range edges() {
				l = append(l, bothWays(api.Pred{Kind: kind, A: a, B: b})...)
			}
		}
	}
	return l
}

// goodPreds are some predicates of each kind that may be, each either way round.
func goodPreds() []api.Pred {
	var l []api.Pred
	for _, p := range []api.Pred{
		{Kind: api.PrAll},
		{Kind: api.PrKey, A: -2, B: 4}, {Kind: api.PrKey, A: 3, B: 3}, {Kind: api.PrKey, A: 4, B: -2},
		{Kind: api.PrKey, A: math.MinInt64, B: math.MaxInt64}, {Kind: api.PrKey, A: math.MaxInt64, B: math.MinInt64},
		{Kind: api.PrVal, A: -2, B: 4}, {Kind: api.PrVal, A: 3, B: 3}, {Kind: api.PrVal, A: 4, B: -2},
		{Kind: api.PrVal, A: math.MinInt64, B: math.MaxInt64}, {Kind: api.PrVal, A: math.MinInt64, B: math.MinInt64},
		{Kind: api.PrMod, A: 1}, {Kind: api.PrMod, A: 2, B: 1}, {Kind: api.PrMod, A: 3, B: 2}, {Kind: api.PrMod, A: 1 << 62, B: 1<<62 - 1},
		{Kind: api.PrMod, A: math.MaxInt64}, {Kind: api.PrMod, A: math.MaxInt64, B: math.MaxInt64 - 1},
		{Kind: api.PrBits}, {Kind: api.PrBits, A: 3, B: 1}, {Kind: api.PrBits, A: 5}, {Kind: api.PrBits, A: math.MinInt64, B: math.MinInt64},
		{Kind: api.PrBits, A: math.MinInt64}, {Kind: api.PrBits, A: -1, B: 5}, {Kind: api.PrBits, A: -1, B: -1}, {Kind: api.PrBits, A: math.MaxInt64, B: 2},
	} {
		l = append(l, bothWays(p)...)
	}
	return l
}

// badPreds are predicates that may not be, of each kind that has such ones, and of kinds that there are not, each either way round.
func badPreds() []api.Pred {
	var l []api.Pred
	for _, p := range []api.Pred{
		{Kind: api.PrAll, A: 1}, {Kind: api.PrAll, B: 1}, {Kind: api.PrAll, A: -1, B: -1}, {Kind: api.PrAll, A: math.MinInt64}, {Kind: api.PrAll, B: math.MinInt64},
		{Kind: api.PrMod}, {Kind: api.PrMod, A: -1}, {Kind: api.PrMod, A: -3, B: 1}, {Kind: api.PrMod, A: -3, B: -4}, {Kind: api.PrMod, A: math.MinInt64}, {Kind: api.PrMod, B: -1},
		{Kind: api.PrMod, A: 3, B: -1}, {Kind: api.PrMod, A: 3, B: 3}, {Kind: api.PrMod, A: 3, B: 4}, {Kind: api.PrMod, A: 1, B: 1}, {Kind: api.PrMod, A: 1, B: math.MinInt64},
		{Kind: api.PrMod, A: math.MaxInt64, B: math.MaxInt64}, {Kind: api.PrMod, A: math.MaxInt64, B: -1}, {Kind: api.PrMod, A: math.MinInt64, B: math.MinInt64},
		{Kind: api.PrBits, A: 1, B: 2}, {Kind: api.PrBits, A: 4, B: 5}, {Kind: api.PrBits, B: 1}, {Kind: api.PrBits, B: math.MinInt64}, {Kind: api.PrBits, A: math.MaxInt64, B: -1}, {Kind: api.PrBits, A: -2, B: 1},
	} {
		l = append(l, bothWays(p)...)
	}
	for _, kind := range strangers() {
		for _, p := range []api.Pred{{Kind: kind}, {Kind: kind, A: 3, B: 1}, {Kind: kind, A: -1, B: -1}, {Kind: kind, A: 5, B: 9}} {
			l = append(l, bothWays(p)...)
		}
	}
	return l
}

// hasBit: bit k of a number, modulo 2^64.
func hasBit(n int64, k int) bool { return uint64(n)>>k&1 == 1 }

// mayBe is what the chapter's words say of A and B, where there is that kind.
func mayBe(p api.Pred) bool {
	switch p.Kind {
	case api.PrAll:
		return p.A == 0 && p.B == 0
	case api.PrMod:
		return p.A >= 1 && p.B >= 0 && p.B <= p.A-1
	case api.PrBits:
		for k := range 64 {
			if hasBit(p.B, k) && !hasBit(p.A, k) {
				return false
			}
		}
	}
	return true
}

// told is what the chapter's words say that a predicate takes, if it may be; a difference is taken of great numbers.
func told(p api.Pred, x api.Pair) bool { return toldStraight(p, x) != p.Not }

// toldStraight is that, Not left aside.
func toldStraight(p api.Pred, x api.Pair) bool {
	switch p.Kind {
	case api.PrKey:
		return !(x.Key < p.A) && !(p.B < x.Key)
	case api.PrVal:
		return !(x.Val < p.A) && !(p.B < x.Val)
	case api.PrMod:
		over := new(big.Int).Sub(big.NewInt(x.Key), big.NewInt(p.B))
		return over.Rem(over, big.NewInt(p.A)).Sign() == 0
	case api.PrBits:
		for k := range 64 {
			if hasBit(p.A, k) && hasBit(x.Key, k) != hasBit(p.B, k) {
				return false
			}
		}
	}
	return true
}

// takes fails the test, unless the predicate may be, and takes just those keys of these, whatever their values are.
func takes(t *testing.T, p api.Pred, in, out []int64) {
	t.Helper()
	if !sift.May(p) {
		t.Errorf("May(%v) = false", p)
	}
	for _, val := range []int64{0, 1, -9} {
		for _, key := range in {
			if x := (api.Pair{Key: key, Val: val}); !sift.Takes(p, x) {
				t.Errorf("Takes(%v, %v) = false", p, x)
			}
		}
		for _, key := range out {
			if x := (api.Pair{Key: key, Val: val}); sift.Takes(p, x) {
				t.Errorf("Takes(%v, %v) = true", p, x)
			}
		}
	}
}

// takesEitherWay is takes, of the same predicate the other way round too.
func takesEitherWay(t *testing.T, p api.Pred, in, out []int64) {
	t.Helper()
	p.Not = false
	takes(t, p, in, out)
	p.Not = true
	takes(t, p, out, in)
}

// TestExamples (P6.1): the chapter's.
func TestExamples(t *testing.T) {
	takes(t, api.Pred{Kind: api.PrMod, A: 3, B: 2}, []int64{-1, 2, 5}, []int64{0, 1, 3})
	takes(t, api.Pred{Kind: api.PrMod, A: 3, B: 2, Not: true}, []int64{0, 1, 3}, []int64{-1, 2, 5})
	takes(t, api.Pred{Kind: api.PrKey, A: 5, B: 4}, nil, edges())
	takes(t, api.Pred{Kind: api.PrBits, A: 3, B: 1}, []int64{1, 5, -3}, []int64{0, 2, 3, -1})
	if sift.May(api.Pred{Kind: api.PrBits, A: 1, B: 2}) {
		t.Error("PrBits of 1, 2 may be")
	}
}

// TestKinds (P6.1): each of the 256 numbers, with an A and a B that the kind, if it is there, may have.
func TestKinds(t *testing.T) {
	if len(kinds()) != api.Preds {
		t.Fatalf("%d kinds are tested, there are %d", len(kinds()), api.Preds)
	}
	for _, kind := range kinds() {
		for _, p := range bothWays(api.Pred{Kind: kind}) {
			if kind == api.PrMod {
				p.A = 1
			}
			if !sift.May(p) {
				t.Errorf("May(%v) = false", p)
			}
		}
	}
	for _, kind := range strangers() {
		for _, ab := range [][2]int64{{0, 0}, {1, 0}, {0, 1}, {3, 1}, {-1, -1}, {math.MinInt64, math.MaxInt64}} {
			for _, p := range bothWays(api.Pred{Kind: kind, A: ab[0], B: ab[1]}) {
				if sift.May(p) || sift.Takes(p, api.Pair{Key: 1, Val: 1}) {
					t.Errorf("of no kind: May(%v) = %v", p, sift.May(p))
				}
			}
		}
	}
}

// TestMay (P6.1): of each kind, by any two edges, as the chapter's words tell it.
func TestMay(t *testing.T) {
	for _, p := range anyPreds() {
		if got := sift.May(p); got != mayBe(p) {
			t.Errorf("May(%v) = %v", p, got)
		}
	}
}

// TestTakes (P6.1): of each kind, by any two edges, each edge as a key, and as a value, as the chapter's words tell it; one that may not be takes none.
func TestTakes(t *testing.T) {
	all := edges()
	for _, p := range anyPreds() {
		may := mayBe(p)
		for k, key := range all {
			x := api.Pair{Key: key, Val: all[len(all)-1-k]}
			want := may && told(p, x)
			if got := sift.Takes(p, x); got != want {
				t.Errorf("Takes(%v, %v) = %v", p, x, got)
			}
		}
	}
}

// TestMayNot (P6.1, P6.2): takes none, Not or not; Keep and Split answer ErrArg, with and without pairs, and nothing beside it.
func TestMayNot(t *testing.T) {
	for _, p := range badPreds() {
		if sift.May(p) {
			t.Errorf("May(%v) = true", p)
		}
		for _, l := range rows() {
			for _, x := range l {
				if sift.Takes(p, x) {
					t.Errorf("Takes(%v, %v) = true", p, x)
				}
			}
			if kept, e := sift.Keep(p, l...); len(kept) != 0 || e != api.ErrArg {
				t.Errorf("Keep(%v) of %d pairs = %v, %v", p, len(l), kept, e)
			}
			if in, out, e := sift.Split(p, l...); len(in) != 0 || len(out) != 0 || e != api.ErrArg {
				t.Errorf("Split(%v) of %d pairs = %v, %v, %v", p, len(l), in, out, e)
			}
		}
	}
}

// TestAll (P6.1): each, or none.
func TestAll(t *testing.T) {
	takesEitherWay(t, api.Pred{Kind: api.PrAll}, edges(), nil)
}

// TestFromTo (P6.1): both ends counted; of A and B that are the same just one, of A more than B none; as numbers, however far they are from each other.
func TestFromTo(t *testing.T) {
	takesEitherWay(t, api.Pred{Kind: api.PrKey, A: -2, B: 3}, []int64{-2, -1, 0, 2, 3}, []int64{math.MinInt64, -3, 4, math.MaxInt64})
	takesEitherWay(t, api.Pred{Kind: api.PrKey, A: math.MinInt64, B: math.MaxInt64}, edges(), nil)
	takesEitherWay(t, api.Pred{Kind: api.PrKey, A: math.MinInt64, B: math.MinInt64}, []int64{math.MinInt64}, edges()[1:])
	takesEitherWay(t, api.Pred{Kind: api.PrKey, A: math.MaxInt64, B: math.MaxInt64}, []int64{math.MaxInt64}, edges()[:len(edges())-1])
	takesEitherWay(t, api.Pred{Kind: api.PrKey, A: math.MaxInt64, B: math.MinInt64}, nil, edges())
	for _, n := range edges() {
		for _, kind := range []uint8{api.PrKey, api.PrVal} {
			p := api.Pred{Kind: kind, A: n, B: n}
			for _, m := range edges() {
				// The other number of the pair is n, or not, whenever this one is the other way round.
				x := api.Pair{Key: m, Val: n}
				if kind == api.PrVal {
					x = api.Pair{Key: n, Val: m}
				}
				if sift.Takes(p, x) != (m == n) {
					t.Errorf("Takes(%v, %v) = %v", p, x, m != n)
				}
			}
		}
	}
}

// TestVal (P6.1): values as keys are; what the key is does not count.
func TestVal(t *testing.T) {
	for _, key := range edges() {
		for _, c := range []struct {
			a, b, val int64
			want      bool
		}{
			{5, 7, 4, false}, {5, 7, 5, true}, {5, 7, 6, true}, {5, 7, 7, true}, {5, 7, 8, false}, {7, 5, 6, false},
			{-1, 1, 0, true}, {math.MinInt64, -1, math.MinInt64, true}, {math.MinInt64, -1, 0, false}, {0, math.MaxInt64, math.MaxInt64, true}, {0, math.MaxInt64, -1, false},
		} {
			for _, p := range bothWays(api.Pred{Kind: api.PrVal, A: c.a, B: c.b}) {
				x := api.Pair{Key: key, Val: c.val}
				if got := sift.Takes(p, x); got != (c.want != p.Not) {
					t.Errorf("Takes(%v, %v) = %v", p, x, got)
				}
			}
		}
	}
}

// TestMod (P6.1): of A 1, of the greatest A, of keys below 0, and where the key less B does not fit into 64 bits.
func TestMod(t *testing.T) {
	const least, most = math.MinInt64, math.MaxInt64
	takesEitherWay(t, api.Pred{Kind: api.PrMod, A: 1}, edges(), nil)
	takesEitherWay(t, api.Pred{Kind: api.PrMod, A: 2}, []int64{least, -2, 0, 2, most - 1}, []int64{least + 1, -1, 1, most})
	takesEitherWay(t, api.Pred{Kind: api.PrMod, A: 3, B: 1}, []int64{least, -5, -2, 1, 4, most}, []int64{least + 1, least + 2, -4, -3, -1, 0, 2, 3, most - 1, most - 2})
	takesEitherWay(t, api.Pred{Kind: api.PrMod, A: most}, []int64{-most, 0, most}, []int64{least, -1, 1, most - 1})
	takesEitherWay(t, api.Pred{Kind: api.PrMod, A: most, B: 1}, []int64{1, -most + 1}, []int64{least, -most, -1, 0, 2, most, most - 1})
	takesEitherWay(t, api.Pred{Kind: api.PrMod, A: most, B: most - 1}, []int64{least, -1, most - 1}, []int64{-most, -2, 0, 1, most})
	takesEitherWay(t, api.Pred{Kind: api.PrMod, A: most - 1, B: most - 2}, []int64{-1, -most, most - 2}, []int64{least, least + 2, 0, 1, most - 1, most})
	takesEitherWay(t, api.Pred{Kind: api.PrMod, A: 1 << 62}, []int64{least, -1 << 62, 0, 1 << 62}, []int64{least + 1, -1, 1, most})
	takesEitherWay(t, api.Pred{Kind: api.PrMod, A: 1 << 62, B: 1<<62 - 1}, []int64{least + 1<<62 - 1, -1, 1<<62 - 1, most}, []int64{least, -1 << 62, 0, 1, 1 << 62})
}

// TestBits (P6.1): of A 0, of the highest bit, of all bits.
func TestBits(t *testing.T) {
	const least, most = math.MinInt64, math.MaxInt64
	takesEitherWay(t, api.Pred{Kind: api.PrBits}, edges(), nil)
	takesEitherWay(t, api.Pred{Kind: api.PrBits, A: least, B: least}, []int64{least, least + 1, -1}, []int64{0, 1, most})
	takesEitherWay(t, api.Pred{Kind: api.PrBits, A: least}, []int64{0, 1, most}, []int64{least, least + 1, -1})
	takesEitherWay(t, api.Pred{Kind: api.PrBits, A: least + 1, B: least}, []int64{least, -2}, []int64{least + 1, -1, 0, 1, 2, most})
	takesEitherWay(t, api.Pred{Kind: api.PrBits, A: most, B: most}, []int64{-1, most}, []int64{least, -2, 0, 1, most - 1})
	takesEitherWay(t, api.Pred{Kind: api.PrBits, A: 6, B: 2}, []int64{2, 3, 10, -5, -6}, []int64{0, 1, 4, 6, 7, -1, -2})
	for k, key := range edges() {
		others := slices.Delete(edges(), k, k+1)
		takesEitherWay(t, api.Pred{Kind: api.PrBits, A: -1, B: key}, []int64{key}, others)
		takesEitherWay(t, api.Pred{Kind: api.PrBits, A: key, B: key}, []int64{key, -1}, nil)
	}
	for k := range 64 {
		bit := int64(uint64(1) << k)
		takesEitherWay(t, api.Pred{Kind: api.PrBits, A: bit, B: bit}, []int64{bit, -1}, []int64{0, ^bit})
		takesEitherWay(t, api.Pred{Kind: api.PrBits, A: bit}, []int64{0, ^bit}, []int64{bit, -1})
	}
}

// chance is a row of numbers that is the same in each run.
type chance uint64

// next is any number.
func (c *chance) next() int64 {
	*c = *c*6364136223846793005 + 1442695040888963407
	high := uint64(*c) >> 32
	*c = *c*6364136223846793005 + 1442695040888963407
	return int64(high<<32 | uint64(*c)>>32)
}

// below is a number from 0 to most - 1.
func (c *chance) below(most int) int { return int(uint64(c.next()) % uint64(most)) }

// TestAnyNumbers (P6.1): predicates and keys from all over the range, of which some are made such that they are taken.
func TestAnyNumbers(t *testing.T) {
	c := chance(1)
	for range 20000 {
		a, b, key := c.next()>>c.below(64), c.next()>>c.below(64), c.next()>>c.below(64)
		for _, p := range []api.Pred{
			{Kind: api.PrKey, A: a, B: b}, {Kind: api.PrVal, A: a, B: b}, {Kind: api.PrMod, A: a, B: b}, {Kind: api.PrBits, A: a, B: b}, {Kind: api.PrBits, A: a, B: a & b},
		} {
			if got := sift.May(p); got != mayBe(p) {
				t.Errorf("May(%v) = %v", p, got)
			}
			for _, x := range []api.Pair{{Key: key, Val: b ^ key}, {Key: key&^p.A | p.B, Val: key}} {
				if got := sift.Takes(p, x); got != (mayBe(p) && told(p, x)) {
					t.Errorf("Takes(%v, %v) = %v", p, x, got)
				}
			}
		}
		modTakes(t, &c, a&math.MaxInt64, b&math.MaxInt64)
	}
}

// modTakes fails the test, unless PrMod of these takes a number of whole steps from B on, wherever that is in the range, and does not take the one behind it.
func modTakes(t *testing.T, c *chance, a, b int64) {
	t.Helper()
	if a < 2 {
		return
	}
	p := api.Pred{Kind: api.PrMod, A: a, B: b % a}
	steps := math.MinInt64/a + int64(uint64(c.next())%(uint64(math.MaxInt64/a)+uint64(-(math.MinInt64/a))))
	key := p.B + steps*a
	takesEitherWay(t, p, []int64{key}, []int64{key + 1})
}

// rows are pairs of which any may be wanted: none, one, many in whatever order, many of one key.
func rows() [][]api.Pair {
	c := chance(7)
	one := []api.Pair{{Key: 3, Val: -3}}
	var up, sameKey, same, mixed []api.Pair
	for k, key := range edges() {
		up = append(up, api.Pair{Key: key, Val: edges()[(k*7+5)%len(edges())]})
		sameKey = append(sameKey, api.Pair{Key: 3, Val: key})
		same = append(same, api.Pair{Key: 3, Val: 3})
	}
	down := slices.Clone(up)
	slices.Reverse(down)
	for range 60 {
		mixed = append(mixed, api.Pair{Key: edges()[c.below(len(edges()))], Val: edges()[c.below(len(edges()))]})
	}
	return [][]api.Pair{nil, {}, one, {{Key: 0, Val: 0}}, {{Key: math.MinInt64, Val: math.MaxInt64}}, up, down, sameKey, same, mixed, slices.Concat(mixed, up, mixed)}
}

// parted are the pairs that a predicate takes, and those that it does not take, by the chapter's words.
func parted(p api.Pred, l []api.Pair) (in, out []api.Pair) {
	for _, x := range l {
		if told(p, x) {
			in = append(in, x)
		} else {
			out = append(out, x)
		}
	}
	return in, out
}

// mustKeep fails the test, if there is an error.
func mustKeep(t *testing.T, p api.Pred, l ...api.Pair) []api.Pair {
	t.Helper()
	kept, e := sift.Keep(p, l...)
	if e != api.OK {
		t.Fatalf("Keep(%v) of %d pairs: %v", p, len(l), e)
	}
	return kept
}

// mustSplit fails the test, if there is an error.
func mustSplit(t *testing.T, p api.Pred, l ...api.Pair) (in, out []api.Pair) {
	t.Helper()
	in, out, e := sift.Split(p, l...)
	if e != api.OK {
		t.Fatalf("Split(%v) of %d pairs: %v", p, len(l), e)
	}
	return in, out
}

// TestKeepAndSplit (P6.2): rows of all sorts, each pair as often as it stands there, in its order.
func TestKeepAndSplit(t *testing.T) {
	for _, p := range goodPreds() {
		for _, l := range rows() {
			wantIn, wantOut := parted(p, l)
			if kept := mustKeep(t, p, l...); !slices.Equal(kept, wantIn) {
				t.Errorf("Keep(%v, %v) = %v", p, l, kept)
			}
			in, out := mustSplit(t, p, l...)
			if !slices.Equal(in, wantIn) || !slices.Equal(out, wantOut) {
				t.Errorf("Split(%v, %v) = %v, %v", p, l, in, out)
			}
		}
	}
}

// TestPairsOfOneKey (P6.2): such pairs are neither sorted nor made into one.
func TestPairsOfOneKey(t *testing.T) {
	l := []api.Pair{{Key: 2, Val: 9}, {Key: 1, Val: 5}, {Key: 2, Val: 1}, {Key: 1, Val: 5}, {Key: 2, Val: 9}}
	odd := api.Pred{Kind: api.PrMod, A: 2, B: 1}
	wantIn, wantOut := []api.Pair{{Key: 1, Val: 5}, {Key: 1, Val: 5}}, []api.Pair{{Key: 2, Val: 9}, {Key: 2, Val: 1}, {Key: 2, Val: 9}}
	if kept := mustKeep(t, odd, l...); !slices.Equal(kept, wantIn) {
		t.Errorf("Keep = %v", kept)
	}
	if in, out := mustSplit(t, odd, l...); !slices.Equal(in, wantIn) || !slices.Equal(out, wantOut) {
		t.Errorf("Split = %v, %v", in, out)
	}
	nine := api.Pred{Kind: api.PrVal, A: 9, B: 9}
	if kept := mustKeep(t, nine, l...); !slices.Equal(kept, []api.Pair{l[0], l[4]}) {
		t.Errorf("Keep = %v", kept)
	}
}

// TestManyPairs (P6.2): of more pairs than the other tests have.
func TestManyPairs(t *testing.T) {
	const most = 5000
	var l []api.Pair
	for k := range int64(most) {
		l = append(l, api.Pair{Key: k*k - 3*most, Val: -k})
	}
	for _, p := range goodPreds() {
		wantIn, wantOut := parted(p, l)
		in, out := mustSplit(t, p, l...)
		if !slices.Equal(in, wantIn) || !slices.Equal(out, wantOut) || !slices.Equal(mustKeep(t, p, l...), wantIn) {
			t.Errorf("%v of %d pairs: %d in, %d out", p, len(l), len(in), len(out))
		}
	}
}
