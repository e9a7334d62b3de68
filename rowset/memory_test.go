package rowset_test

import (
	"math"
	"slices"
	"testing"

	"joinery/api"
	"joinery/rowset"
)

// roomy is the row at the front of greater memory, with what lies behind its end, so that a write there can be seen.
func roomy(l []api.Pair) (piece, whole []api.Pair) {
	whole = append(slices.Clone(l), api.Pair{Key: 777, Val: 778}, api.Pair{Key: 779, Val: 780})
	return whole[:len(l)], whole
}

// scribble writes all over a list, and behind its end as far as its memory goes.
func scribble(l []api.Pair) {
	l = l[:cap(l)]
	for k := range l {
		l[k] = api.Pair{Key: 99, Val: 99}
	}
}

// answersOf are the lists that all calls answer of two rows.
func answersOf(o, p uint8, a, b []api.Pair, key int64) [][]api.Pair {
	var l [][]api.Pair
	for _, c := range calls() {
		l = append(l, c.do(o, p, a, b).pairs)
	}
	sort, _ := rowset.Sort(o, p, a...)
	from, _ := rowset.Range(o, a, key, math.MaxInt64)
	to, _ := rowset.Range(o, a, math.MinInt64, key)
	ahead, _, _, behind := rowset.Cut(o, a, key)
	return append(l, sort, from, to, ahead, behind)
}

// anyRows are rows that may be, two by two, and some that may not.
func anyRows(t *testing.T, o uint8) [][2][]api.Pair {
	t.Helper()
	if o == 0 || o > api.Orders {
		return [][2][]api.Pair{{}, {{{Key: 5, Val: 1}}, {{Key: 0, Val: 1}, {Key: 5, Val: 1}}}}
	}
	l := twoRows(t, o)
	for _, bad := range broken(t, o)[:6] {
		l = append(l, [2][]api.Pair{bad, bad})
	}
	return l
}

// TestRowsStay (P5.1, P5.2): rows that are handed in are not changed, nor what lies behind their ends, whatever is done with the answers.
func TestRowsStay(t *testing.T) {
	for _, o := range append(upTo(api.Orders), 0, 255) {
		for _, two := range anyRows(t, o) {
			a, wholeA := roomy(two[0])
			b, wholeB := roomy(two[1])
			wasA, wasB := slices.Clone(wholeA), slices.Clone(wholeB)
			for _, key := range []int64{math.MinInt64, 0, 5, math.MaxInt64} {
				for _, p := range append(upTo(api.Policies), 0, 255) {
					for _, l := range answersOf(o, p, a, b, key) {
						scribble(l)
					}
				}
			}
			if !slices.Equal(wholeA, wasA) || !slices.Equal(wholeB, wasB) {
				t.Errorf("order %d: %v became %v, and %v became %v", o, wasA, wholeA, wasB, wholeB)
			}
		}
	}
}

// TestAnswersStay (P5.1, P5.2): an answer stays when the rows are changed behind it, and when another answer is.
func TestAnswersStay(t *testing.T) {
	for _, o := range upTo(api.Orders) {
		for _, two := range twoRows(t, o) {
			for _, key := range []int64{0, math.MaxInt64} {
				for k := range answersOf(o, api.PoSum, two[0], two[1], key) {
					answerStays(t, o, two, key, k)
				}
			}
		}
	}
}

// answerStays fails the test, if the answer at that place is changed with what it came of, or with any of the others.
func answerStays(t *testing.T, o uint8, two [2][]api.Pair, key int64, place int) {
	t.Helper()
	a, b := slices.Clone(two[0]), slices.Clone(two[1])
	mine, others := answersOf(o, api.PoSum, a, b, key), answersOf(o, api.PoSum, a, b, key)
	was := slices.Clone(mine[place])
	scribble(a)
	scribble(b)
	for k := range mine {
		scribble(others[k])
		if k != place {
			scribble(mine[k])
		}
	}
	if !slices.Equal(mine[place], was) {
		t.Errorf("order %d, key %d: answer %d, %v, became %v", o, key, place, was, mine[place])
	}
}

// TestNothingIsKept (P5.1, P5.2): a call says nothing of those before it.
func TestNothingIsKept(t *testing.T) {
	a, b := []api.Pair{{Key: 1, Val: 10}, {Key: 3, Val: 30}}, []api.Pair{{Key: 3, Val: 5}}
	answersOf(api.OrUp, api.PoSum, a, b, 3)
	a[0], b[0] = api.Pair{Key: 2, Val: 20}, api.Pair{Key: 2, Val: 7}
	see(t, "Union", answered(rowset.Union(api.OrUp, api.PoSum, a, b)), []api.Pair{{Key: 2, Val: 27}, {Key: 3, Val: 30}})
	see(t, "Less", answered(rowset.Less(api.OrUp, a, b)), []api.Pair{{Key: 3, Val: 30}})
	a[1] = api.Pair{Key: 0, Val: 1}
	refused(t, "Meet", answered(rowset.Meet(api.OrUp, api.PoSum, a, b)))
	see(t, "Meet", answered(rowset.Meet(api.OrDown, api.PoSum, a, b)), []api.Pair{{Key: 2, Val: 27}})
}
