package rowset_test

import (
	"cmp"
	"fmt"
	"math"
	"slices"
	"testing"

	"joinery/api"
	"joinery/order"
	"joinery/row"
	"joinery/rowset"
)

// answer is what a call of two rows answers.
type answer struct {
	pairs []api.Pair
	err   api.Errno
}

// call is one of the calls of two rows, by words: what it keeps of the keys, and whether it asks for a policy.
type call struct {
	name    string
	policed bool
	stays   func(inFirst, inSecond bool) bool
	do      func(o, p uint8, a, b []api.Pair) answer
}

// answered puts two results into one.
func answered(l []api.Pair, e api.Errno) answer { return answer{l, e} }

// calls are all calls of two rows.
func calls() []call {
	return []call{
		{"Union", true, func(x, y bool) bool { return x || y },
			func(o, p uint8, a, b []api.Pair) answer { return answered(rowset.Union(o, p, a, b)) }},
		{"Meet", true, func(x, y bool) bool { return x && y },
			func(o, p uint8, a, b []api.Pair) answer { return answered(rowset.Meet(o, p, a, b)) }},
		{"Less", false, func(x, y bool) bool { return x && !y },
			func(o, _ uint8, a, b []api.Pair) answer { return answered(rowset.Less(o, a, b)) }},
		{"Apart", false, func(x, y bool) bool { return x != y },
			func(o, _ uint8, a, b []api.Pair) answer { return answered(rowset.Apart(o, a, b)) }},
	}
}

// upTo are the numbers from 1 to most: orders, or policies.
func upTo(most int) []uint8 {
	var l []uint8
	for n := range most {
		l = append(l, uint8(n+1))
	}
	return l
}

// beyond are the numbers of a byte that upTo leaves out: orders, or policies, that there are not.
func beyond(most int) []uint8 {
	l := []uint8{0}
	for n := most + 1; n <= math.MaxUint8; n++ {
		l = append(l, uint8(n))
	}
	return l
}

// edges are the least and the greatest keys, those around 0, and some between.
func edges() []int64 {
	return []int64{
		math.MinInt64, math.MinInt64 + 1, -1 << 62, -1 << 32, -1000, -3, -2, -1,
		0, 1, 2, 3, 4, 1001, 1<<32 - 1, 1 << 32, 1 << 62, math.MaxInt64 - 1, math.MaxInt64,
	}
}

// code fails the test, if there is no such order.
func code(t *testing.T, o uint8, key int64) uint64 {
	t.Helper()
	c, e := order.Code(o, key)
	if e != api.OK {
		t.Fatalf("Code(%d, %d): %v", o, key, e)
	}
	return c
}

// keyOf fails the test, if there is no such order.
func keyOf(t *testing.T, o uint8, c uint64) int64 {
	t.Helper()
	k, e := order.Key(o, c)
	if e != api.OK {
		t.Fatalf("Key(%d, %d): %v", o, c, e)
	}
	return k
}

// sorted is the row of these keys, none of them twice, by their codes; the values hang on the seed, so that it tells one row's from another one's, and some leave the range when they are added.
func sorted(t *testing.T, o uint8, seed int64, keys ...int64) []api.Pair {
	t.Helper()
	var l []api.Pair
	for k, key := range keys {
		x := api.Pair{Key: key, Val: seed*1000 + int64(k) + 1}
		if k%5 == 3 {
			x.Val = math.MaxInt64 - seed
		}
		l = append(l, x)
	}
	slices.SortFunc(l, func(a, b api.Pair) int { return cmp.Compare(code(t, o, a.Key), code(t, o, b.Key)) })
	return l
}

// chance is a row of numbers that is the same in each run.
type chance uint64

// below is a number from 0 to most - 1.
func (c *chance) below(most int) int {
	*c = *c*6364136223846793005 + 1442695040888963407
	return int(uint64(*c) >> 33 % uint64(most))
}

// keysOf are some keys of those, each taken or not.
func (c *chance) keysOf(from []int64) []int64 {
	return slices.DeleteFunc(slices.Clone(from), func(int64) bool { return c.below(2) == 0 })
}

// twoRows are rows that may be, two by two: without pairs, with one, with no key in common, with all, one within the other, one ahead of the other, and any.
func twoRows(t *testing.T, o uint8) [][2][]api.Pair {
	t.Helper()
	all := edges()
	slices.SortFunc(all, func(a, b int64) int { return cmp.Compare(code(t, o, a), code(t, o, b)) })
	var evens, odds []int64
	for k, key := range all {
		if k%2 == 0 {
			evens = append(evens, key)
		} else {
			odds = append(odds, key)
		}
	}
	none, first, last := []int64{}, all[:1], all[len(all)-1:]
	var l [][2][]api.Pair
	for _, two := range [][2][]int64{
		{none, none}, {none, first}, {first, first}, {first, last}, {none, all},
		{all, all}, {evens, odds}, {odds, evens}, {all, evens}, {all, odds}, {all, all[4:9]},
		{all[:7], all[7:]}, {all[:7], all[6:]}, {all[:7], all[5:]}, {all, first}, {all, last}, {all[1:], first}, {all, all[7:8]},
	} {
		l = append(l, [2][]api.Pair{sorted(t, o, 1, two[0]...), sorted(t, o, 2, two[1]...)})
		l = append(l, [2][]api.Pair{sorted(t, o, 3, two[1]...), sorted(t, o, 4, two[0]...)})
	}
	c := chance(o)
	for range 40 {
		l = append(l, [2][]api.Pair{sorted(t, o, 5, c.keysOf(all)...), sorted(t, o, 6, c.keysOf(all)...)})
	}
	return append(l, [2][]api.Pair{nil, nil}, [2][]api.Pair{{}, {}})
}

// broken are rows that may not be by the order, though just one or two pairs stand wrong: turned about, two neighbours changed, a key twice.
func broken(t *testing.T, o uint8) [][]api.Pair {
	t.Helper()
	whole := sorted(t, o, 1, edges()...)
	turned := slices.Clone(whole)
	slices.Reverse(turned)
	l := [][]api.Pair{turned, {whole[3], whole[3]}, {whole[1], whole[0]}, append(slices.Clone(whole), whole[0])}
	for k := range len(whole) - 1 {
		changed := slices.Clone(whole)
		changed[k], changed[k+1] = changed[k+1], changed[k]
		l = append(l, changed)
	}
	for k, x := range whole {
		x.Val = -1
		l = append(l, slices.Insert(slices.Clone(whole), k, x))
	}
	return l
}

// combine is what comes of two values, by the words of layer 3.
func combine(t *testing.T, p uint8, a, b int64) int64 {
	t.Helper()
	switch p {
	case api.PoLeft:
		return a
	case api.PoRight:
		return b
	case api.PoSum:
		return a + b
	}
	t.Fatalf("there is no policy %d", p)
	return 0
}

// byKeys are the values of a row by their keys.
func byKeys(l []api.Pair) map[int64]int64 {
	m := map[int64]int64{}
	for _, x := range l {
		m[x.Key] = x.Val
	}
	return m
}

// rowOf is the row of what a map has.
func rowOf(t *testing.T, o uint8, m map[int64]int64) []api.Pair {
	t.Helper()
	var l []api.Pair
	for key, val := range m {
		l = append(l, api.Pair{Key: key, Val: val})
	}
	slices.SortFunc(l, func(a, b api.Pair) int { return cmp.Compare(code(t, o, a.Key), code(t, o, b.Key)) })
	return l
}

// byWords is what a call of two rows has to answer, by maps: whose each key is, and what comes of its values.
func (c call) byWords(t *testing.T, o, p uint8, a, b []api.Pair) []api.Pair {
	t.Helper()
	first, second, all := byKeys(a), byKeys(b), map[int64]int64{}
	for key, val := range second {
		if _, is := first[key]; !is && c.stays(false, true) {
			all[key] = val
		}
	}
	for key, val := range first {
		other, is := second[key]
		if is && c.stays(true, true) {
			all[key] = combine(t, p, val, other)
		} else if !is && c.stays(true, false) {
			all[key] = val
		}
	}
	return rowOf(t, o, all)
}

// see fails the test, unless what is answered is these pairs, and no error.
func see(t *testing.T, what string, got answer, want []api.Pair) {
	t.Helper()
	if got.err != api.OK || !slices.Equal(got.pairs, want) {
		t.Errorf("%s = %v, %v, want %v", what, got.pairs, got.err, want)
	}
}

// refused fails the test, unless what is answered is ErrArg, and nothing beside it.
func refused(t *testing.T, what string, got answer) {
	t.Helper()
	if got.err != api.ErrArg || len(got.pairs) != 0 {
		t.Errorf("%s = %v, %v, want ErrArg", what, got.pairs, got.err)
	}
}

// TestExamples (P5.1, P5.2): the chapter's.
func TestExamples(t *testing.T) {
	a, b := []api.Pair{{Key: 1, Val: 10}, {Key: 2, Val: 20}}, []api.Pair{{Key: 2, Val: 5}, {Key: 3, Val: 30}}
	see(t, "Union", answered(rowset.Union(api.OrUp, api.PoSum, a, b)), []api.Pair{{Key: 1, Val: 10}, {Key: 2, Val: 25}, {Key: 3, Val: 30}})
	see(t, "Meet", answered(rowset.Meet(api.OrUp, api.PoLeft, a, b)), []api.Pair{{Key: 2, Val: 20}})
	see(t, "Less", answered(rowset.Less(api.OrUp, a, b)), []api.Pair{{Key: 1, Val: 10}})
	see(t, "Apart", answered(rowset.Apart(api.OrUp, a, b)), []api.Pair{{Key: 1, Val: 10}, {Key: 3, Val: 30}})
	ahead, val, is, behind := rowset.Cut(api.OrUp, a, 2)
	if !slices.Equal(ahead, a[:1]) || val != 20 || !is || len(behind) != 0 {
		t.Errorf("Cut(a, 2) = %v, %d, %v, %v", ahead, val, is, behind)
	}
}

// TestTwoRows (P5.1): each call of two rows, by each order and each policy, as maps have it.
func TestTwoRows(t *testing.T) {
	for _, o := range upTo(api.Orders) {
		for _, two := range twoRows(t, o) {
			for _, p := range upTo(api.Policies) {
				for _, c := range calls() {
					what := fmt.Sprintf("%s(%d, %d, %v, %v)", c.name, o, p, two[0], two[1])
					see(t, what, c.do(o, p, two[0], two[1]), c.byWords(t, o, p, two[0], two[1]))
				}
			}
		}
	}
}

// TestValuesComeTogether (P5.1): the first row's value is the first one, and a sum goes round.
func TestValuesComeTogether(t *testing.T) {
	a, b := []api.Pair{{Key: 4, Val: math.MaxInt64}}, []api.Pair{{Key: 4, Val: 1}}
	want := map[uint8]int64{api.PoLeft: math.MaxInt64, api.PoRight: 1, api.PoSum: math.MinInt64}
	for _, o := range upTo(api.Orders) {
		for _, p := range upTo(api.Policies) {
			pair := []api.Pair{{Key: 4, Val: want[p]}}
			see(t, "Union", answered(rowset.Union(o, p, a, b)), pair)
			see(t, "Meet", answered(rowset.Meet(o, p, a, b)), pair)
			see(t, "Sort", answered(rowset.Sort(o, p, a[0], b[0])), pair)
		}
	}
}

// TestNoSuchRow (P5.1): a row that may not be is refused as the first one, as the second one, and as both.
func TestNoSuchRow(t *testing.T) {
	for _, o := range upTo(api.Orders) {
		good := sorted(t, o, 2, 1, 2, 3)
		for _, bad := range broken(t, o) {
			for _, two := range [][2][]api.Pair{{bad, good}, {good, bad}, {bad, nil}, {nil, bad}, {bad, bad}} {
				for _, c := range calls() {
					refused(t, fmt.Sprintf("%s(%d, PoSum, %v, %v)", c.name, o, two[0], two[1]), c.do(o, api.PoSum, two[0], two[1]))
				}
			}
		}
	}
}

// TestRowOfAnotherOrder (P5.1): the edges, put in a row by one order, may not be by another one.
func TestRowOfAnotherOrder(t *testing.T) {
	for _, o := range upTo(api.Orders) {
		for _, other := range upTo(api.Orders) {
			if o == other {
				continue
			}
			for _, c := range calls() {
				refused(t, fmt.Sprintf("%s(%d) of rows by %d", c.name, other, o), c.do(other, api.PoSum, sorted(t, o, 1, edges()...), sorted(t, o, 2, edges()...)))
			}
		}
	}
}

// TestNoOrder (P5.1, P5.2): of an order that there is not no row may be, not even one of no pairs, or of one.
func TestNoOrder(t *testing.T) {
	one, two := []api.Pair{{Key: 0, Val: 5}}, []api.Pair{{Key: 1, Val: 10}, {Key: 3, Val: 30}}
	for _, o := range beyond(api.Orders) {
		for _, l := range [][]api.Pair{nil, {}, one, two} {
			for _, c := range calls() {
				refused(t, fmt.Sprintf("%s(%d, PoSum, %v, %v)", c.name, o, l, l), c.do(o, api.PoSum, l, l))
				refused(t, fmt.Sprintf("%s(%d, 0, %v, %v)", c.name, o, l, l), c.do(o, 0, l, l))
			}
			refused(t, fmt.Sprintf("Sort(%d, PoSum, %v)", o, l), answered(rowset.Sort(o, api.PoSum, l...)))
			refused(t, fmt.Sprintf("Range(%d, %v, 0, 3)", o, l), answered(rowset.Range(o, l, 0, 3)))
			for _, key := range []int64{math.MinInt64, 0, 1, 2, 3, math.MaxInt64} {
				cutsNothing(t, o, l, key)
			}
		}
	}
}

// TestNoPolicy (P5.1): it is refused, whether or not there is a key that would need it.
func TestNoPolicy(t *testing.T) {
	for _, o := range upTo(api.Orders) {
		for _, p := range beyond(api.Policies) {
			for _, two := range [][2][]int64{{}, {{0}, {}}, {{}, {0}}, {{0}, {0}}, {{1, 2}, {3}}} {
				a, b := sorted(t, o, 1, two[0]...), sorted(t, o, 2, two[1]...)
				for _, c := range calls() {
					if c.policed {
						refused(t, fmt.Sprintf("%s(%d, %d, %v, %v)", c.name, o, p, a, b), c.do(o, p, a, b))
					}
				}
				refused(t, fmt.Sprintf("Sort(%d, %d, %v)", o, p, a), answered(rowset.Sort(o, p, a...)))
			}
		}
	}
}

// TestSort (P5.1): any pairs; keys that stand many times have what comes of all their values, in the order in which they stand.
func TestSort(t *testing.T) {
	for _, o := range upTo(api.Orders) {
		c := chance(o) + 100
		for _, most := range []int{0, 1, 2, 3, 10, 100, 1000} {
			for _, many := range []int{1, 2, 5, len(edges())} {
				var l []api.Pair
				for range most {
					l = append(l, api.Pair{Key: edges()[c.below(many)], Val: int64(c.below(1<<30)) << 33})
				}
				for _, p := range upTo(api.Policies) {
					see(t, fmt.Sprintf("Sort(%d, %d, %v)", o, p, l), answered(rowset.Sort(o, p, l...)), sortedByWords(t, o, p, l))
				}
			}
		}
	}
}

// sortedByWords is what Sort has to answer, by a map.
func sortedByWords(t *testing.T, o, p uint8, l []api.Pair) []api.Pair {
	t.Helper()
	m := map[int64]int64{}
	for _, x := range l {
		old, is := m[x.Key]
		m[x.Key] = x.Val
		if is {
			m[x.Key] = combine(t, p, old, x.Val)
		}
	}
	return rowOf(t, o, m)
}

// TestSortOfRows (P5.1): a row that may be stays, and so it is answered, if it was turned about.
func TestSortOfRows(t *testing.T) {
	for _, o := range upTo(api.Orders) {
		for n := range len(edges()) + 1 {
			whole := sorted(t, o, 1, edges()[:n]...)
			turned := slices.Clone(whole)
			slices.Reverse(turned)
			for _, p := range upTo(api.Policies) {
				see(t, "Sort of a row", answered(rowset.Sort(o, p, whole...)), whole)
				see(t, "Sort of a row turned about", answered(rowset.Sort(o, p, turned...)), whole)
			}
		}
	}
}

// asked are keys to ask a row for: its own, those next to them by the order, the edges, and the first and the last one by the order.
func asked(t *testing.T, o uint8, l []api.Pair) []int64 {
	t.Helper()
	keys := append(edges(), keyOf(t, o, 0), keyOf(t, o, math.MaxUint64))
	for _, x := range l {
		c := code(t, o, x.Key)
		keys = append(keys, x.Key, keyOf(t, o, c-1), keyOf(t, o, c+1))
	}
	slices.Sort(keys)
	return slices.Compact(keys)
}

// between are the pairs whose codes are from one to another one.
func between(t *testing.T, o uint8, l []api.Pair, lo, hi uint64) []api.Pair {
	t.Helper()
	return slices.DeleteFunc(slices.Clone(l), func(x api.Pair) bool {
		c := code(t, o, x.Key)
		return c < lo || c > hi
	})
}

// askedRows are rows to be cut: of no pairs, of one, of some, with the first and the last key by the order, and without.
func askedRows(t *testing.T, o uint8) [][]api.Pair {
	t.Helper()
	first, last := keyOf(t, o, 0), keyOf(t, o, math.MaxUint64)
	return [][]api.Pair{
		nil, {}, sorted(t, o, 1, 0), sorted(t, o, 1, first), sorted(t, o, 1, last), sorted(t, o, 1, first, last),
		sorted(t, o, 1, -2, 1, 7), sorted(t, o, 1, edges()...), sorted(t, o, 1, edges()[3:12]...),
	}
}

// TestCut (P5.2): at each of the keys, ahead of all, behind all, between any two.
func TestCut(t *testing.T) {
	for _, o := range upTo(api.Orders) {
		for _, l := range askedRows(t, o) {
			vals := byKeys(l)
			for _, key := range asked(t, o, l) {
				var wantAhead, wantBehind []api.Pair
				for _, x := range l {
					if c := cmp.Compare(code(t, o, x.Key), code(t, o, key)); c < 0 {
						wantAhead = append(wantAhead, x)
					} else if c > 0 {
						wantBehind = append(wantBehind, x)
					}
				}
				wantVal, there := vals[key]
				ahead, val, is, behind := rowset.Cut(o, l, key)
				if !slices.Equal(ahead, wantAhead) || val != wantVal || is != there || !slices.Equal(behind, wantBehind) {
					t.Errorf("Cut(%d, %v, %d) = %v, %d, %v, %v", o, l, key, ahead, val, is, behind)
				}
			}
		}
	}
}

// TestCutNought (P5.2): a value that is 0 is there.
func TestCutNought(t *testing.T) {
	for _, o := range upTo(api.Orders) {
		if ahead, val, is, behind := rowset.Cut(o, []api.Pair{{}}, 0); len(ahead) != 0 || val != 0 || !is || len(behind) != 0 {
			t.Errorf("Cut(%d, 0 0, 0) = %v, %d, %v, %v", o, ahead, val, is, behind)
		}
	}
}

// TestNoRow (P5.2): a row that may not be is cut into nothing, and has no range.
func TestNoRow(t *testing.T) {
	for _, o := range upTo(api.Orders) {
		for _, l := range broken(t, o) {
			for _, key := range asked(t, o, l) {
				cutsNothing(t, o, l, key)
				refused(t, fmt.Sprintf("Range(%d, %v, %d, %d)", o, l, key, key), answered(rowset.Range(o, l, key, key)))
			}
			all := answered(rowset.Range(o, l, keyOf(t, o, 0), keyOf(t, o, math.MaxUint64)))
			refused(t, fmt.Sprintf("Range(%d, %v) of all", o, l), all)
		}
	}
}

// cutsNothing fails the test, unless Cut answers of the row as of one that may not be.
func cutsNothing(t *testing.T, o uint8, l []api.Pair, key int64) {
	t.Helper()
	if ahead, val, is, behind := rowset.Cut(o, l, key); len(ahead) != 0 || val != 0 || is || len(behind) != 0 {
		t.Errorf("Cut(%d, %v, %d) = %v, %d, %v, %v", o, l, key, ahead, val, is, behind)
	}
}

// TestRange (P5.2): from any key to any other one; hi the same as lo, hi ahead of lo.
func TestRange(t *testing.T) {
	for _, o := range upTo(api.Orders) {
		for _, l := range askedRows(t, o) {
			keys := asked(t, o, l)
			for _, lo := range keys {
				for _, hi := range keys {
					want := between(t, o, l, code(t, o, lo), code(t, o, hi))
					see(t, fmt.Sprintf("Range(%d, %v, %d, %d)", o, l, lo, hi), answered(rowset.Range(o, l, lo, hi)), want)
				}
			}
		}
	}
}

// TestRangeOfAll (P5.2): from the first key to the last one by the order, and the other way round.
func TestRangeOfAll(t *testing.T) {
	for _, o := range upTo(api.Orders) {
		first, last := keyOf(t, o, 0), keyOf(t, o, math.MaxUint64)
		for _, l := range askedRows(t, o) {
			see(t, "Range of all", answered(rowset.Range(o, l, first, last)), l)
			see(t, "Range of all, turned about", answered(rowset.Range(o, l, last, first)), nil)
		}
	}
}

// TestManyPairs (P5.1, P5.2): of more pairs than the other tests have.
func TestManyPairs(t *testing.T) {
	const most = 1200
	for _, o := range upTo(api.Orders) {
		var twos, threes []api.Pair
		for k := range int64(most) {
			twos, threes = append(twos, api.Pair{Key: 2 * k, Val: k}), append(threes, api.Pair{Key: 3 * k, Val: -k})
		}
		a, b := answered(rowset.Sort(o, api.PoSum, twos...)), answered(rowset.Sort(o, api.PoSum, threes...))
		see(t, "Sort of even keys", a, rowOf(t, o, byKeys(twos)))
		for _, c := range calls() {
			see(t, c.name, c.do(o, api.PoSum, a.pairs, b.pairs), c.byWords(t, o, api.PoSum, a.pairs, b.pairs))
		}
		ahead, val, is, behind := rowset.Cut(o, a.pairs, 1000)
		if place, _ := row.Find(o, a.pairs, 1000); !slices.Equal(ahead, a.pairs[:place]) || val != 500 || !is || !slices.Equal(behind, a.pairs[place+1:]) {
			t.Errorf("order %d: Cut at 1000 of %d pairs tells %d, %v, %d ahead and %d behind", o, most, val, is, len(ahead), len(behind))
		}
	}
}
