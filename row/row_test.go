package row_test

import (
	"cmp"
	"maps"
	"math"
	"math/big"
	"slices"
	"testing"

	"joinery/api"
	"joinery/fold"
	"joinery/order"
	"joinery/row"
)

// noOrders are numbers of orders that there are not.
func noOrders() []uint8 { return beyond(api.Orders) }

// noPolicies are numbers of policies that there are not.
func noPolicies() []uint8 { return beyond(api.Policies) }

// beyond are 0, and all numbers from most + 1 to 255.
func beyond(most int) []uint8 {
	l := []uint8{0}
	for n := most + 1; n <= math.MaxUint8; n++ {
		l = append(l, uint8(n))
	}
	return l
}

// upTo are the numbers from 1 to most: orders, or policies.
func upTo(most int) []uint8 {
	var l []uint8
	for n := range most {
		l = append(l, uint8(n+1))
	}
	return l
}

// edges are the least and the greatest keys, those around 0, and some between.
func edges() []int64 {
	return []int64{
		math.MinInt64, math.MinInt64 + 1, -1 << 62, -1<<32 - 1, -1 << 32, -1000, -7, -3, -2, -1,
		0, 1, 2, 3, 4, 8, 1001, 1<<32 - 1, 1 << 32, 1<<32 + 1, 1 << 62, math.MaxInt64 - 1, math.MaxInt64,
	}
}

// code fails the test, if there is no such order.
func code(t *testing.T, o uint8, key int64) uint64 {
	t.Helper()
	c, e := order.Code(o, key)
	if e != api.OK {
		t.Fatalf("Code(%d, %d): %v", o, key, e)
	}
	return c
}

// keyOf fails the test, if there is no such order.
func keyOf(t *testing.T, o uint8, c uint64) int64 {
	t.Helper()
	k, e := order.Key(o, c)
	if e != api.OK {
		t.Fatalf("Key(%d, %d): %v", o, c, e)
	}
	return k
}

// sorted is the row of these keys by their codes, each with a value of its own, none of which is 0.
func sorted(t *testing.T, o uint8, keys ...int64) []api.Pair {
	t.Helper()
	var l []api.Pair
	for k, key := range keys {
		l = append(l, api.Pair{Key: key, Val: int64(10*k + 5)})
	}
	slices.SortFunc(l, func(a, b api.Pair) int { return cmp.Compare(code(t, o, a.Key), code(t, o, b.Key)) })
	return l
}

// rows are rows that may be: of no pairs, of one, of two, and of more, the first and the last key by the order among them, or not.
func rows(t *testing.T, o uint8) [][]api.Pair {
	t.Helper()
	first, last := keyOf(t, o, 0), keyOf(t, o, math.MaxUint64)
	l := [][]api.Pair{nil, {}, sorted(t, o, first), sorted(t, o, last), sorted(t, o, first, last)}
	for _, key := range []int64{math.MinInt64, -1, 0, 1, math.MaxInt64} {
		l = append(l, sorted(t, o, key))
	}
	for n := 2; n <= len(edges()); n++ {
		l = append(l, sorted(t, o, edges()[:n]...))
	}
	return l
}

// asked are keys to ask a row for: its own, those next to them by the order, the edges, and the first and the last one by the order.
func asked(t *testing.T, o uint8, l []api.Pair) []int64 {
	t.Helper()
	keys := append(edges(), keyOf(t, o, 0), keyOf(t, o, math.MaxUint64))
	for _, x := range l {
		c := code(t, o, x.Key)
		keys = append(keys, x.Key, keyOf(t, o, c-1), keyOf(t, o, c+1))
	}
	slices.Sort(keys)
	return slices.Compact(keys)
}

// broken are rows that may not be by the order, though just one or two pairs stand wrong: turned about, two neighbours changed, a key twice.
func broken(t *testing.T, o uint8) [][]api.Pair {
	t.Helper()
	whole := sorted(t, o, edges()...)
	turned := slices.Clone(whole)
	slices.Reverse(turned)
	l := [][]api.Pair{turned, {whole[3], whole[3]}, {whole[1], whole[0]}, {whole[0], whole[1], whole[0]}}
	for k := range len(whole) - 1 {
		changed := slices.Clone(whole)
		changed[k], changed[k+1] = changed[k+1], changed[k]
		l = append(l, changed)
	}
	for k, x := range whole {
		x.Val = -1
		l = append(l, slices.Insert(slices.Clone(whole), k, x))
	}
	l = append(l, append(slices.Clone(whole), whole[0]))
	return l
}

// placeByWords counts the pairs ahead of key: as codes rise, the first one that is not stands there.
func placeByWords(t *testing.T, o uint8, l []api.Pair, key int64) int {
	t.Helper()
	n := 0
	for _, x := range l {
		if code(t, o, x.Key) < code(t, o, key) {
			n++
		}
	}
	return n
}

// mustPut fails the test, if there is an error.
func mustPut(t *testing.T, o, p uint8, l []api.Pair, x api.Pair) []api.Pair {
	t.Helper()
	got, e := row.Put(o, p, l, x)
	if e != api.OK {
		t.Fatalf("Put(%d, %d, %v, %v): %v", o, p, l, x, e)
	}
	return got
}

// roomy is the row at the front of greater memory, with what lies behind its end, so that a write there can be seen.
func roomy(l []api.Pair) (piece, whole []api.Pair) {
	whole = append(slices.Clone(l), api.Pair{Key: 777, Val: 778}, api.Pair{Key: 779, Val: 780})
	return whole[:len(l)], whole
}

// TestExamples (P4.1, P4.2): the chapter's.
func TestExamples(t *testing.T) {
	l := []api.Pair{{Key: 1, Val: 10}, {Key: 3, Val: 30}}
	if place, is := row.Find(api.OrUp, l, 2); place != 1 || is {
		t.Errorf("Find(2) = %d, %v", place, is)
	}
	if got, e := row.Put(api.OrUp, api.PoSum, l, api.Pair{Key: 3, Val: 5}); e != api.OK || !slices.Equal(got, []api.Pair{{Key: 1, Val: 10}, {Key: 3, Val: 35}}) {
		t.Errorf("Put(PoSum, 3 5) = %v, %v", got, e)
	}
	if got, is := row.Drop(api.OrUp, l, 1); !is || !slices.Equal(got, []api.Pair{{Key: 3, Val: 30}}) {
		t.Errorf("Drop(1) = %v, %v", got, is)
	}
	if got, is := row.Floor(api.OrUp, l, 2); !is || got != l[0] {
		t.Errorf("Floor(2) = %v, %v", got, is)
	}
	if got, is := row.Ceil(api.OrUp, l, 4); is || got != (api.Pair{}) {
		t.Errorf("Ceil(4) = %v, %v", got, is)
	}
	turned := []api.Pair{{Key: 3, Val: 1}, {Key: 1, Val: 1}}
	if row.May(api.OrUp, turned...) || !row.May(api.OrDown, turned...) {
		t.Error("3 1, 1 1 may be by OrDown alone")
	}
}

// TestMay (P4.1): rows that rise by each order, in spite of what their values are.
func TestMay(t *testing.T) {
	for _, o := range upTo(api.Orders) {
		for _, l := range rows(t, o) {
			if !row.May(o, l...) {
				t.Errorf("May(%d, %v) = false", o, l)
			}
			same := slices.Clone(l)
			for k := range same {
				same[k].Val = 7
			}
			if !row.May(o, same...) {
				t.Errorf("May(%d, %v) = false", o, same)
			}
		}
	}
}

// TestMayNot (P4.1): rows of which any two neighbours stand wrong.
func TestMayNot(t *testing.T) {
	for _, o := range upTo(api.Orders) {
		for _, l := range broken(t, o) {
			if row.May(o, l...) {
				t.Errorf("May(%d, %v) = true", o, l)
			}
		}
	}
}

// TestMayByOneOrder (P4.1): the edges, put in a row by one order, may not be by another one.
func TestMayByOneOrder(t *testing.T) {
	for _, o := range upTo(api.Orders) {
		for _, other := range upTo(api.Orders) {
			if got := row.May(other, sorted(t, o, edges()...)...); got != (o == other) {
				t.Errorf("sorted by %d: May(%d) = %v", o, other, got)
			}
		}
	}
}

// TestNoOrder (P4.1, P4.2): of an order that there is not no row may be, not even one of no pairs, or of one.
func TestNoOrder(t *testing.T) {
	for _, o := range noOrders() {
		for _, l := range [][]api.Pair{nil, {}, {{Key: 0, Val: 5}}, {{Key: 1, Val: 10}, {Key: 3, Val: 30}}} {
			if row.May(o, l...) {
				t.Errorf("May(%d, %v) = true", o, l)
			}
			for _, key := range []int64{math.MinInt64, 0, 1, 2, 3, math.MaxInt64} {
				answersNothing(t, o, l, key)
			}
		}
	}
}

// TestNoRow (P4.1, P4.2): a row that may not be answers nothing, wherever in it the key stands.
func TestNoRow(t *testing.T) {
	for _, o := range upTo(api.Orders) {
		for _, l := range broken(t, o) {
			for _, key := range asked(t, o, l) {
				answersNothing(t, o, l, key)
			}
		}
	}
}

// answersNothing fails the test, unless all calls answer of the row as of one that may not be.
func answersNothing(t *testing.T, o uint8, l []api.Pair, key int64) {
	t.Helper()
	if place, is := row.Find(o, l, key); place != 0 || is {
		t.Errorf("Find(%d, %v, %d) = %d, %v", o, l, key, place, is)
	}
	if v, is := row.Get(o, l, key); v != 0 || is {
		t.Errorf("Get(%d, %v, %d) = %d, %v", o, l, key, v, is)
	}
	if x, is := row.Floor(o, l, key); x != (api.Pair{}) || is {
		t.Errorf("Floor(%d, %v, %d) = %v, %v", o, l, key, x, is)
	}
	if x, is := row.Ceil(o, l, key); x != (api.Pair{}) || is {
		t.Errorf("Ceil(%d, %v, %d) = %v, %v", o, l, key, x, is)
	}
	if got, is := row.Drop(o, l, key); len(got) != 0 || is {
		t.Errorf("Drop(%d, %v, %d) = %v, %v", o, l, key, got, is)
	}
	for _, p := range []uint8{0, api.PoLeft, api.PoRight, api.PoSum, 255} {
		if got, e := row.Put(o, p, l, api.Pair{Key: key, Val: 1}); len(got) != 0 || e != api.ErrArg {
			t.Errorf("Put(%d, %d, %v, %d 1) = %v, %v", o, p, l, key, got, e)
		}
	}
}

// TestNoPolicy (P4.2): ErrArg, whether or not the key is there and would need the policy.
func TestNoPolicy(t *testing.T) {
	for _, o := range upTo(api.Orders) {
		for _, p := range noPolicies() {
			for _, l := range [][]api.Pair{nil, {}, sorted(t, o, 0), sorted(t, o, edges()...)} {
				for _, key := range []int64{math.MinInt64, 0, 5, math.MaxInt64} {
					if got, e := row.Put(o, p, l, api.Pair{Key: key, Val: 1}); len(got) != 0 || e != api.ErrArg {
						t.Errorf("Put(%d, %d, %v, %d 1) = %v, %v", o, p, l, key, got, e)
					}
				}
			}
		}
	}
}

// TestFind (P4.1): ahead of all, behind all, between any two, and each of the keys.
func TestFind(t *testing.T) {
	for _, o := range upTo(api.Orders) {
		for _, l := range rows(t, o) {
			for _, key := range asked(t, o, l) {
				want := placeByWords(t, o, l, key)
				there := slices.ContainsFunc(l, func(x api.Pair) bool { return x.Key == key })
				if place, is := row.Find(o, l, key); place != want || is != there {
					t.Errorf("Find(%d, %v, %d) = %d, %v, want %d, %v", o, l, key, place, is, want, there)
				}
			}
		}
	}
}

// TestGet (P4.1): the value of each key that is there, 0 and false of others.
func TestGet(t *testing.T) {
	for _, o := range upTo(api.Orders) {
		for _, l := range rows(t, o) {
			vals := map[int64]int64{}
			for _, x := range l {
				vals[x.Key] = x.Val
			}
			for _, key := range asked(t, o, l) {
				want, there := vals[key]
				if v, is := row.Get(o, l, key); v != want || is != there {
					t.Errorf("Get(%d, %v, %d) = %d, %v, want %d, %v", o, l, key, v, is, want, there)
				}
			}
		}
	}
}

// TestGetNought (P4.1): a value that is 0 is there.
func TestGetNought(t *testing.T) {
	for _, o := range upTo(api.Orders) {
		if v, is := row.Get(o, []api.Pair{{}}, 0); v != 0 || !is {
			t.Errorf("Get(%d, 0 0, 0) = %d, %v", o, v, is)
		}
	}
}

// TestFloorAndCeil (P4.1): by going through all pairs, from either end.
func TestFloorAndCeil(t *testing.T) {
	for _, o := range upTo(api.Orders) {
		for _, l := range rows(t, o) {
			for _, key := range asked(t, o, l) {
				var floor, ceil api.Pair
				var below, above bool
				for _, x := range l {
					if code(t, o, x.Key) <= code(t, o, key) {
						floor, below = x, true
					}
				}
				for k := range l {
					if x := l[len(l)-1-k]; code(t, o, x.Key) >= code(t, o, key) {
						ceil, above = x, true
					}
				}
				if x, is := row.Floor(o, l, key); x != floor || is != below {
					t.Errorf("Floor(%d, %v, %d) = %v, %v, want %v, %v", o, l, key, x, is, floor, below)
				}
				if x, is := row.Ceil(o, l, key); x != ceil || is != above {
					t.Errorf("Ceil(%d, %v, %d) = %v, %v, want %v, %v", o, l, key, x, is, ceil, above)
				}
			}
		}
	}
}

// TestPut (P4.2): a key that is not there is put in where it belongs, one that is there keeps its place.
func TestPut(t *testing.T) {
	for _, o := range upTo(api.Orders) {
		for _, p := range upTo(api.Policies) {
			for _, l := range rows(t, o) {
				for _, key := range asked(t, o, l) {
					x := api.Pair{Key: key, Val: 1000}
					want := slices.Clone(l)
					if place := placeByWords(t, o, l, key); place < len(l) && l[place].Key == key {
						want[place].Val = map[uint8]int64{api.PoLeft: l[place].Val, api.PoRight: 1000, api.PoSum: l[place].Val + 1000}[p]
					} else {
						want = slices.Insert(want, place, x)
					}
					if got, e := row.Put(o, p, l, x); e != api.OK || !slices.Equal(got, want) {
						t.Errorf("Put(%d, %d, %v, %v) = %v, %v, want %v", o, p, l, x, got, e, want)
					}
				}
			}
		}
	}
}

// TestPutGoesRound (P4.2): sums out of the range above, and below.
func TestPutGoesRound(t *testing.T) {
	for _, c := range []struct{ old, val, want int64 }{
		{math.MaxInt64, 1, math.MinInt64},
		{math.MinInt64, -1, math.MaxInt64},
		{math.MinInt64, math.MinInt64, 0},
		{math.MaxInt64, math.MaxInt64, -2},
	} {
		for _, o := range upTo(api.Orders) {
			got := mustPut(t, o, api.PoSum, []api.Pair{{Key: 4, Val: c.old}}, api.Pair{Key: 4, Val: c.val})
			if !slices.Equal(got, []api.Pair{{Key: 4, Val: c.want}}) {
				t.Errorf("Put(%d, PoSum, 4 %d, 4 %d) = %v, want 4 %d", o, c.old, c.val, got, c.want)
			}
		}
	}
}

// TestDrop (P4.2): without the key, if it is there; the same pairs, and false, if it is not.
func TestDrop(t *testing.T) {
	for _, o := range upTo(api.Orders) {
		for _, l := range rows(t, o) {
			for _, key := range asked(t, o, l) {
				want := slices.DeleteFunc(slices.Clone(l), func(x api.Pair) bool { return x.Key == key })
				if got, is := row.Drop(o, l, key); is != (len(want) < len(l)) || !slices.Equal(got, want) {
					t.Errorf("Drop(%d, %v, %d) = %v, %v, want %v", o, l, key, got, is, want)
				}
			}
		}
	}
}

// TestSum (P4.2): of any pairs, sorted or not, with keys twice; round.
func TestSum(t *testing.T) {
	whole := new(big.Int).Lsh(big.NewInt(1), 64)
	sum := new(big.Int)
	var l []api.Pair
	if got := row.Sum(l...); got != 0 {
		t.Errorf("Sum of none = %d", got)
	}
	if got := row.Sum([]api.Pair{}...); got != 0 {
		t.Errorf("Sum of none = %d", got)
	}
	for k, v := range append(edges(), edges()...) {
		l = append(l, api.Pair{Key: int64(k % 3), Val: v})
		sum.Add(sum, big.NewInt(v))
		want := int64(new(big.Int).Mod(sum, whole).Uint64())
		if got := row.Sum(l...); got != want {
			t.Errorf("Sum of %d pairs = %d, want %d", len(l), got, want)
		}
	}
	if got := row.Sum(api.Pair{Key: 1, Val: math.MaxInt64}, api.Pair{Key: 1, Val: 1}); got != math.MinInt64 {
		t.Errorf("Sum of 2^63 - 1 and 1 = %d", got)
	}
}

// TestRowsStay (P4.1, P4.2): a row that is handed in is not changed, nor what lies behind its end, whatever is done with the answer.
func TestRowsStay(t *testing.T) {
	for _, o := range append(upTo(api.Orders), 0, 255) {
		for _, l := range stayers(t, o) {
			piece, whole := roomy(l)
			was := slices.Clone(whole)
			for _, key := range []int64{math.MinInt64, -1, 0, 5, math.MaxInt64} {
				row.May(o, piece...)
				row.Find(o, piece, key)
				row.Get(o, piece, key)
				row.Floor(o, piece, key)
				row.Ceil(o, piece, key)
				row.Sum(piece...)
				for _, p := range append(upTo(api.Policies), 0, 255) {
					got, _ := row.Put(o, p, piece, api.Pair{Key: key, Val: 9})
					scribble(got)
				}
				got, _ := row.Drop(o, piece, key)
				scribble(got)
			}
			if !slices.Equal(whole, was) {
				t.Errorf("order %d: %v became %v", o, was, whole)
			}
		}
	}
}

// stayers are rows of the order that may be, and some that may not.
func stayers(t *testing.T, o uint8) [][]api.Pair {
	t.Helper()
	if o == 0 || o > api.Orders {
		return [][]api.Pair{{}, {{Key: 5, Val: 1}}, {{Key: 0, Val: 1}, {Key: 5, Val: 1}}}
	}
	return append(rows(t, o), broken(t, o)...)
}

// scribble writes all over an answer, and behind its end as far as its memory goes.
func scribble(l []api.Pair) {
	l = l[:cap(l)]
	for k := range l {
		l[k] = api.Pair{Key: 99, Val: 99}
	}
}

// TestAnswersStay (P4.2): an answer stays when the row is changed behind it, and when another answer is.
func TestAnswersStay(t *testing.T) {
	for _, o := range upTo(api.Orders) {
		l := sorted(t, o, edges()...)
		for _, key := range []int64{math.MinInt64, 0, 5, math.MaxInt64} {
			mine := slices.Clone(l)
			put, again := mustPut(t, o, api.PoSum, mine, api.Pair{Key: key, Val: 9}), mustPut(t, o, api.PoSum, mine, api.Pair{Key: key, Val: 9})
			dropped, is := row.Drop(o, mine, key)
			droppedAgain, _ := row.Drop(o, mine, key)
			wasPut, wasDropped := slices.Clone(put), slices.Clone(dropped)
			scribble(mine)
			scribble(again)
			scribble(droppedAgain)
			if !slices.Equal(put, wasPut) || !slices.Equal(dropped, wasDropped) {
				t.Errorf("order %d, key %d (there: %v): an answer was changed", o, key, is)
			}
		}
	}
}

// TestNothingIsKept (P4.1, P4.2): a call says nothing of those before it.
func TestNothingIsKept(t *testing.T) {
	l := []api.Pair{{Key: 1, Val: 10}, {Key: 3, Val: 30}}
	row.Put(api.OrUp, api.PoSum, l, api.Pair{Key: 2, Val: 20})
	row.Find(api.OrUp, l, 3)
	l[1] = api.Pair{Key: 0, Val: 5}
	if row.May(api.OrUp, l...) || !row.May(api.OrDown, l...) || row.Sum(l...) != 15 {
		t.Error("a row that was handed in earlier is still asked")
	}
	if v, is := row.Get(api.OrDown, l, 0); v != 5 || !is {
		t.Errorf("Get(OrDown, 1 10, 0 5, 0) = %d, %v", v, is)
	}
}

// TestPutAndDropMany (P4.3): as a map has it; what is not put or dropped stays, and the row is sorted all the time.
func TestPutAndDropMany(t *testing.T) {
	for _, o := range upTo(api.Orders) {
		for _, p := range upTo(api.Policies) {
			var l []api.Pair
			kept := map[int64]int64{}
			x := uint64(o)*7 + uint64(p)
			for range 300 {
				x = x*6364136223846793005 + 1442695040888963407
				key := edges()[x>>33%uint64(len(edges()))]
				if x>>60 < 10 {
					l = putBoth(t, o, p, l, kept, api.Pair{Key: key, Val: int64(x)})
				} else {
					l = dropBoth(t, o, l, kept, key)
				}
				compareBoth(t, o, l, kept)
			}
		}
	}
}

// putBoth puts a pair into a row, and into a map.
func putBoth(t *testing.T, o, p uint8, l []api.Pair, kept map[int64]int64, x api.Pair) []api.Pair {
	t.Helper()
	old, is := kept[x.Key]
	kept[x.Key] = x.Val
	if is {
		kept[x.Key], _ = fold.Combine(p, old, x.Val)
	}
	got := mustPut(t, o, p, l, x)
	if v, is := row.Get(o, got, x.Key); !is || v != kept[x.Key] {
		t.Fatalf("order %d, policy %d: %v was put, %d, %v is got", o, p, x, v, is)
	}
	return got
}

// dropBoth drops a key from a row, and from a map.
func dropBoth(t *testing.T, o uint8, l []api.Pair, kept map[int64]int64, key int64) []api.Pair {
	t.Helper()
	_, was := kept[key]
	delete(kept, key)
	got, is := row.Drop(o, l, key)
	if is != was {
		t.Fatalf("order %d: Drop(%v, %d) tells %v", o, l, key, is)
	}
	if v, is := row.Get(o, got, key); is || v != 0 {
		t.Fatalf("order %d: %d was dropped, %d, %v is got", o, key, v, is)
	}
	return got
}

// compareBoth fails the test, unless the row has the map's pairs, each key just once, and sorted by its codes.
func compareBoth(t *testing.T, o uint8, l []api.Pair, kept map[int64]int64) {
	t.Helper()
	keys := slices.Collect(maps.Keys(kept))
	slices.SortFunc(keys, func(a, b int64) int { return cmp.Compare(code(t, o, a), code(t, o, b)) })
	var want []api.Pair
	var sum int64
	for _, key := range keys {
		want = append(want, api.Pair{Key: key, Val: kept[key]})
		sum += kept[key]
	}
	if !slices.Equal(l, want) || !row.May(o, l...) || row.Sum(l...) != sum {
		t.Fatalf("order %d: %v, want %v", o, l, want)
	}
	endsOf(t, o, l, want)
}

// endsOf (P4.3) fails the test, unless the least and the greatest are Ceil and Floor of all.
func endsOf(t *testing.T, o uint8, l, want []api.Pair) {
	t.Helper()
	var least, greatest api.Pair
	if len(want) > 0 {
		least, greatest = want[0], want[len(want)-1]
	}
	if x, is := row.Ceil(o, l, keyOf(t, o, 0)); x != least || is != (len(want) > 0) {
		t.Fatalf("order %d: Ceil of all of %v = %v, %v", o, l, x, is)
	}
	if x, is := row.Floor(o, l, keyOf(t, o, math.MaxUint64)); x != greatest || is != (len(want) > 0) {
		t.Fatalf("order %d: Floor of all of %v = %v, %v", o, l, x, is)
	}
}

// TestManyPairs (P4.3): in whichever way round keys are put, it is one row; dropped one by one, it is none.
func TestManyPairs(t *testing.T) {
	const most = 500
	for _, o := range upTo(api.Orders) {
		var up, down []api.Pair
		for k := range most {
			up = mustPut(t, o, api.PoLeft, up, api.Pair{Key: int64(k), Val: int64(k) + 1})
			back := most - 1 - k
			down = mustPut(t, o, api.PoRight, down, api.Pair{Key: int64(back), Val: int64(back) + 1})
		}
		if !slices.Equal(up, down) || len(up) != most || !row.May(o, up...) {
			t.Fatalf("order %d: two rows of the same pairs", o)
		}
		for k := range most {
			if place, is := row.Find(o, up, up[k].Key); place != k || !is {
				t.Errorf("order %d: %d stands at %d, %v, not at %d", o, up[k].Key, place, is, k)
			}
		}
		for k := range most {
			l, is := row.Drop(o, up, int64(k))
			if !is || len(l) != most-1-k || !row.May(o, l...) {
				t.Fatalf("order %d: %d pairs are left behind %d drops, %v", o, len(l), k+1, is)
			}
			up = l
		}
	}
}
