package sift_test

import (
	"math"
	"slices"
	"testing"

	"joinery/api"
	"joinery/sift"
)

// TestEitherWay (P6.3): each pair is taken by a predicate, or by the same one the other way round, and not by both.
func TestEitherWay(t *testing.T) {
	for _, p := range anyPreds() {
		if p.Not || !sift.May(p) {
			continue
		}
		not := p
		not.Not = true
		for k, key := range edges() {
			x := api.Pair{Key: key, Val: edges()[(k+11)%len(edges())]}
			if sift.Takes(p, x) == sift.Takes(not, x) {
				t.Errorf("%v is taken by %v, and the other way round: %v", x, p, sift.Takes(p, x))
			}
		}
	}
}

// TestSplitTheOtherWay (P6.3): what one keeps, the other one does not; no pair is lost, and none comes in.
func TestSplitTheOtherWay(t *testing.T) {
	for _, p := range goodPreds() {
		not := p
		not.Not = !p.Not
		for _, l := range rows() {
			in, out := mustSplit(t, p, l...)
			notIn, notOut := mustSplit(t, not, l...)
			if !slices.Equal(in, notOut) || !slices.Equal(out, notIn) || len(in)+len(out) != len(l) {
				t.Errorf("Split(%v, %v) = %v, %v; the other way round %v, %v", p, l, in, out, notIn, notOut)
			}
			if !slices.Equal(mustKeep(t, p, l...), in) || !slices.Equal(mustKeep(t, not, l...), out) {
				t.Errorf("Keep(%v, %v), either way, is not as Split is", p, l)
			}
		}
	}
}

// TestKeptOfKept (P6.3): what is kept of what is kept is that, and the other way round there is nothing to be kept of it.
func TestKeptOfKept(t *testing.T) {
	for _, p := range goodPreds() {
		not := p
		not.Not = !p.Not
		for _, l := range rows() {
			kept := mustKeep(t, p, l...)
			if again := mustKeep(t, p, kept...); !slices.Equal(again, kept) {
				t.Errorf("Keep(%v, %v) = %v", p, kept, again)
			}
			if none := mustKeep(t, not, kept...); len(none) != 0 {
				t.Errorf("Keep(%v, %v) = %v", not, kept, none)
			}
		}
	}
}

// TestTwoRows (P6.3): what is kept of two rows, one behind the other, is what is kept of each.
func TestTwoRows(t *testing.T) {
	for _, p := range goodPreds() {
		for _, a := range rows() {
			for _, b := range rows() {
				both := slices.Concat(a, b)
				apart := slices.Concat(mustKeep(t, p, a...), mustKeep(t, p, b...))
				if kept := mustKeep(t, p, both...); !slices.Equal(kept, apart) {
					t.Errorf("Keep(%v) of %v and %v = %v", p, a, b, kept)
				}
			}
		}
	}
}

// TestParts (P6.3): a row that is parted at any place.
func TestParts(t *testing.T) {
	l := rows()[len(rows())-1]
	for _, p := range goodPreds() {
		in, out := mustSplit(t, p, l...)
		for k := range len(l) + 1 {
			firstIn, firstOut := mustSplit(t, p, l[:k]...)
			lastIn, lastOut := mustSplit(t, p, l[k:]...)
			if !slices.Equal(slices.Concat(firstIn, lastIn), in) || !slices.Equal(slices.Concat(firstOut, lastOut), out) {
				t.Errorf("Split(%v), parted at %d, is not as at once", p, k)
			}
		}
	}
}

// TestJustOneOfMod (P6.3): each key is taken by just one of the predicates of one A, and each B, of PrMod.
func TestJustOneOfMod(t *testing.T) {
	for a := int64(1); a <= 70; a++ {
		for _, key := range edges() {
			x := api.Pair{Key: key, Val: key}
			var by []int64
			for b := range a {
				p := api.Pred{Kind: api.PrMod, A: a, B: b}
				if sift.Takes(p, x) {
					by = append(by, b)
				}
				p.Not = true
				if len(by) > 1 || sift.Takes(p, x) == slices.Contains(by, b) {
					t.Errorf("%d, divided by %d, is taken of B %d, and not of %d", key, a, by, b)
				}
			}
			if len(by) != 1 {
				t.Errorf("%d, divided by %d, is taken of B %d", key, a, by)
			}
		}
	}
}

// TestJustOneOfGreatMod (P6.3): likewise of so great an A that no B but these few takes any of the edges.
func TestJustOneOfGreatMod(t *testing.T) {
	for _, a := range []int64{1 << 62, 1<<62 + 1, math.MaxInt64 - 1, math.MaxInt64} {
		var bs []int64
		for _, n := range edges() {
			// Each edge is less than three times A from 0 on.
			for _, b := range []int64{n, n - a, n + a, n + a + a} {
				if 0 <= b && b < a {
					bs = append(bs, b)
				}
			}
		}
		slices.Sort(bs)
		bs = slices.Compact(bs)
		for _, key := range edges() {
			count := 0
			for _, b := range bs {
				if sift.Takes(api.Pred{Kind: api.PrMod, A: a, B: b}, api.Pair{Key: key}) {
					count++
				}
			}
			if count != 1 {
				t.Errorf("%d, divided by %d, is taken of %d of %d", key, a, count, bs)
			}
		}
	}
}
