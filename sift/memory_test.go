package sift_test

import (
	"math"
	"slices"
	"testing"

	"joinery/api"
	"joinery/sift"
)

// roomy is the row at the front of greater memory, with what lies behind its end, so that a write there can be seen.
func roomy(l []api.Pair) (piece, whole []api.Pair) {
	whole = append(slices.Clone(l), api.Pair{Key: 777, Val: 778}, api.Pair{Key: 779, Val: 780})
	return whole[:len(l)], whole
}

// scribble writes all over a list, and behind its end as far as its memory goes.
func scribble(l []api.Pair) {
	l = l[:cap(l)]
	for k := range l {
		l[k] = api.Pair{Key: 99, Val: 99}
	}
}

// answersOf are the lists that the calls answer of a row.
func answersOf(p api.Pred, l []api.Pair) [][]api.Pair {
	kept, _ := sift.Keep(p, l...)
	in, out, _ := sift.Split(p, l...)
	return [][]api.Pair{kept, in, out}
}

// TestRowsStay (P6.2): pairs that are handed in are not changed, nor what lies behind their end, whatever is done with the answers; those that are all of the pairs too.
func TestRowsStay(t *testing.T) {
	for _, p := range append(goodPreds(), badPreds()...) {
		for _, row := range rows() {
			l, whole := roomy(row)
			was := slices.Clone(whole)
			for _, answer := range answersOf(p, l) {
				scribble(answer)
			}
			if !slices.Equal(whole, was) {
				t.Errorf("%v: %v became %v", p, was, whole)
			}
		}
	}
}

// TestAnswersStay (P6.2): an answer stays when the pairs are changed behind it, and when another answer is.
func TestAnswersStay(t *testing.T) {
	for _, p := range goodPreds() {
		for _, row := range rows() {
			for place := range answersOf(p, row) {
				l := slices.Clone(row)
				mine, others := answersOf(p, l), answersOf(p, l)
				was := slices.Clone(mine[place])
				scribble(l)
				for k := range mine {
					scribble(others[k])
					if k != place {
						scribble(mine[k])
					}
				}
				if !slices.Equal(mine[place], was) {
					t.Errorf("%v: answer %d of %v, %v, became %v", p, place, row, was, mine[place])
				}
			}
		}
	}
}

// TestNothingIsKept (P6.1, P6.2): a call says nothing of those before it, and of the same it answers the same.
func TestNothingIsKept(t *testing.T) {
	low, bad := api.Pred{Kind: api.PrKey, A: math.MinInt64, B: 2}, api.Pred{Kind: api.PrMod}
	l := []api.Pair{{Key: 1, Val: 10}, {Key: 3, Val: 30}}
	old := mustKeep(t, low, l...)
	l[0].Key, l[1].Key = 3, 1
	if later := mustKeep(t, low, l...); !slices.Equal(later, []api.Pair{{Key: 1, Val: 30}}) || !slices.Equal(old, []api.Pair{{Key: 1, Val: 10}}) {
		t.Errorf("Keep answered %v, then %v", old, later)
	}
	if _, e := sift.Keep(bad, l...); e != api.ErrArg {
		t.Errorf("Keep(%v): %v", bad, e)
	}
	in, out := mustSplit(t, low, l...)
	if !slices.Equal(in, []api.Pair{{Key: 1, Val: 30}}) || !slices.Equal(out, []api.Pair{{Key: 3, Val: 10}}) {
		t.Errorf("Split answered %v, %v", in, out)
	}
	low.Not = true
	if !sift.Takes(low, l[0]) || sift.Takes(low, l[1]) {
		t.Errorf("%v does not take as it is", low)
	}
}
