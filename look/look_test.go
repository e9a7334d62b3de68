package look_test

import (
	"iter"
	"math"
	"slices"
	"testing"

	"joinery/api"
	"joinery/look"
	"joinery/node"
)

// numbers are keys and values: the least and the greatest, those around 0, others of either sign; they do not rise.
func numbers() []int64 {
	return []int64{
		7, math.MinInt64, -1, math.MaxInt64, 0, -1 << 62, 1, math.MaxInt64 - 1,
		-9, 1 << 32, math.MinInt64 + 1, 1 << 62, -1 << 32,
	}
}

// numberAt is one for each place, which goes round.
func numberAt(place int) int64 { return numbers()[place%len(numbers())] }

// strangers are keys that no tree of these tests has, next to such as trees have.
func strangers() []int64 {
	return []int64{math.MinInt64 + 2, math.MaxInt64 - 2, -1<<62 - 1, 1<<62 + 1, 123_456_789, -123_456_789}
}

// leaf is a node of two empty trees.
func leaf(key, val int64) *node.Node { return node.New(nil, key, val, 0, nil) }

// chain is a tree that is deep on one side alone, of the numbers by their places.
func chain(deep int, left bool) *node.Node {
	var t *node.Node
	for k := range deep {
		if left {
			t = node.New(t, numberAt(k), int64(k), 0, nil)
		} else {
			t = node.New(nil, numberAt(k), int64(k), 0, t)
		}
	}
	return t
}

// zigzag is a tree that is deep, now on the left side, now on the right one; with leaves on its other side.
func zigzag(deep int, leaves bool) *node.Node {
	var t, other *node.Node
	for k := range deep {
		if leaves {
			other = leaf(numberAt(k+4), -int64(k))
		}
		if k%2 == 0 {
			t = node.New(t, numberAt(k), int64(k), 0, other)
		} else {
			t = node.New(other, numberAt(k), int64(k), 0, t)
		}
	}
	return t
}

// full is a tree of all nodes that there may be of that height, each of its own.
func full(high, from int) *node.Node {
	if high == 0 {
		return nil
	}
	l := full(high-1, 2*from)
	return node.New(l, numberAt(from), int64(from), uint64(high), full(high-1, 2*from+1))
}

// twins is a tree in which each node has the same tree on both its sides, so high.
func twins(high int) *node.Node {
	var t *node.Node
	for k := range high {
		t = node.New(t, numberAt(k), int64(k), 0, t)
	}
	return t
}

// lean is a tree whose one side is always one higher than the other one, which is a tree of the higher one's own: nodes stand there many times.
func lean(high int, left bool) *node.Node {
	var low, t *node.Node
	for k := range high {
		above := node.New(low, numberAt(k), int64(k), 0, t)
		if left {
			above = node.New(t, numberAt(k), int64(k), 0, low)
		}
		low, t = t, above
	}
	return t
}

// shapes are all trees that there may be of so many nodes, with keys of a few that stand there again and again.
func shapes(count int) []*node.Node {
	if count == 0 {
		return []*node.Node{nil}
	}
	var all []*node.Node
	for left := range count {
		for _, l := range shapes(left) {
			for _, r := range shapes(count - 1 - left) {
				all = append(all, node.New(l, numberAt(len(all)%5), int64(100*count+len(all)), 0, r))
			}
		}
	}
	return all
}

// trees are trees of many shapes: the empty one, leaves, those of one side, those that share, deep ones, full ones, and all small ones.
func trees() []*node.Node {
	l := []*node.Node{nil}
	for k := range numbers() {
		l = append(l, leaf(numberAt(k), numberAt(k+6)))
	}
	one, other := l[1], l[2]
	both := node.New(one, 3, 4, 5, other)
	l = append(l,
		node.New(one, 1, 2, 3, nil), node.New(nil, 1, 2, 3, one), node.New(one, 1, 2, 3, one), node.New(one, 7, 7, 7, one),
		both, node.New(both, 0, 0, 0, one), node.New(other, -1, -1, 7, both), node.New(both, 3, 4, 5, both),
		chain(2, true), chain(2, false), chain(60, true), chain(61, false), zigzag(50, false), zigzag(51, true),
		full(2, 1), full(3, 1), full(8, 1), twins(2), twins(3), twins(9), lean(4, true), lean(9, true), lean(10, false),
		node.New(full(4, 1), 5, 5, 5, chain(9, true)), node.New(zigzag(20, true), 5, 5, 5, full(5, 1)),
	)
	for count := range 7 {
		l = append(l, shapes(count)...)
	}
	return l
}

// pairsOf are a tree's pairs, from left to right, by the chapter's words.
func pairsOf(t *node.Node) []api.Pair {
	if t == nil {
		return nil
	}
	l := append(pairsOf(t.Left()), api.Pair{Key: t.Key(), Val: t.Val()})
	return append(l, pairsOf(t.Right())...)
}

// backOf are a tree's pairs, from right to left, by the chapter's words.
func backOf(t *node.Node) []api.Pair {
	if t == nil {
		return nil
	}
	l := append(backOf(t.Right()), api.Pair{Key: t.Key(), Val: t.Val()})
	return append(l, backOf(t.Left())...)
}

// keysOf are the keys of pairs.
func keysOf(l []api.Pair) []int64 {
	var keys []int64
	for _, x := range l {
		keys = append(keys, x.Key)
	}
	return keys
}

// heightOf is a tree's height, by the chapter's words.
func heightOf(t *node.Node) int {
	if t == nil {
		return 0
	}
	return 1 + max(heightOf(t.Left()), heightOf(t.Right()))
}

// deepOf is how deep the first node of a key lies, from left to right; 0, if there is none.
func deepOf(t *node.Node, key int64) int {
	if t == nil {
		return 0
	}
	if deep := deepOf(t.Left(), key); deep > 0 {
		return deep + 1
	}
	if t.Key() == key {
		return 1
	}
	if deep := deepOf(t.Right(), key); deep > 0 {
		return deep + 1
	}
	return 0
}

// told are the pairs that are gone over.
func told(s iter.Seq2[int64, int64]) []api.Pair {
	var l []api.Pair
	for key, val := range s {
		l = append(l, api.Pair{Key: key, Val: val})
	}
	return l
}

// seeDeep fails the test, unless the first node of that key lies so deep; 0 is: there is none.
func seeDeep(t *testing.T, x *node.Node, key int64, want int) {
	t.Helper()
	if deep, is := look.Deep(x, key); deep != want || is != (want > 0) {
		t.Errorf("Deep(%d) is %d, %t, not %d", key, deep, is, want)
	}
	if is := look.Has(x, key); is != (want > 0) {
		t.Errorf("Has(%d) is %t", key, is)
	}
}

// seePairs fails the test, unless these are the tree's pairs, from left to right.
func seePairs(t *testing.T, x *node.Node, want []api.Pair) {
	t.Helper()
	if got := told(look.All(x)); !slices.Equal(got, want) {
		t.Errorf("All tells %v, not %v", got, want)
	}
	if got := look.Pairs(x); !slices.Equal(got, want) {
		t.Errorf("Pairs are %v, not %v", got, want)
	}
	if got := look.Keys(x); !slices.Equal(got, keysOf(want)) {
		t.Errorf("Keys are %v, not %v", got, keysOf(want))
	}
}

// seeBack fails the test, unless these are the tree's pairs, from right to left.
func seeBack(t *testing.T, x *node.Node, want []api.Pair) {
	t.Helper()
	if got := told(look.Back(x)); !slices.Equal(got, want) {
		t.Errorf("Back tells %v, not %v", got, want)
	}
}

// seeHeight fails the test, unless the tree is so high.
func seeHeight(t *testing.T, x *node.Node, want int) {
	t.Helper()
	if got := look.Height(x); got != want {
		t.Errorf("Height is %d, not %d", got, want)
	}
}

// TestExample (P10.1, P10.2): the chapter's own.
func TestExample(t *testing.T) {
	x := node.New(node.New(nil, 1, 2, 0, nil), 3, 4, 0, nil)
	seePairs(t, x, []api.Pair{{Key: 1, Val: 2}, {Key: 3, Val: 4}})
	seeBack(t, x, []api.Pair{{Key: 3, Val: 4}, {Key: 1, Val: 2}})
	seeHeight(t, x, 2)
	seeDeep(t, x, 1, 2)
	seeDeep(t, x, 3, 1)
	seeDeep(t, x, 2, 0)
}

// TestEmpty (P10.1, P10.2): there is nothing in the empty tree, and it is 0 high.
func TestEmpty(t *testing.T) {
	for _, s := range []iter.Seq2[int64, int64]{look.All(nil), look.Back(nil)} {
		for range 2 {
			for key, val := range s {
				t.Errorf("of nothing comes %d %d", key, val)
			}
		}
	}
	if p, k := look.Pairs(nil), look.Keys(nil); len(p) != 0 || len(k) != 0 {
		t.Errorf("nothing has %v, %v", p, k)
	}
	seeHeight(t, nil, 0)
	if n := look.Count(nil); n != 0 {
		t.Errorf("nothing has %d nodes", n)
	}
	for _, key := range slices.Concat(numbers(), strangers()) {
		seeDeep(t, nil, key, 0)
	}
}

// TestLeaf (P10.1, P10.2): a node of two empty trees, of each key and value.
func TestLeaf(t *testing.T) {
	for _, key := range numbers() {
		for _, val := range numbers() {
			x := leaf(key, val)
			seePairs(t, x, []api.Pair{{Key: key, Val: val}})
			seeBack(t, x, []api.Pair{{Key: key, Val: val}})
			seeHeight(t, x, 1)
			for _, other := range numbers() {
				if other != key {
					seeDeep(t, x, other, 0)
				}
			}
			seeDeep(t, x, key, 1)
		}
	}
}

// TestSides (P10.1, P10.2): a node with something on the left, on the right, on both sides, and with the very same tree on both.
func TestSides(t *testing.T) {
	a, b, top := api.Pair{Key: 8, Val: 80}, api.Pair{Key: 2, Val: 20}, api.Pair{Key: 5, Val: 50}
	one, other := leaf(8, 80), leaf(2, 20)
	for _, c := range []struct {
		left, right *node.Node
		want        []api.Pair
		high        int
	}{
		{nil, nil, []api.Pair{top}, 1},
		{one, nil, []api.Pair{a, top}, 2},
		{nil, one, []api.Pair{top, a}, 2},
		{one, other, []api.Pair{a, top, b}, 2},
		{other, one, []api.Pair{b, top, a}, 2},
		{one, one, []api.Pair{a, top, a}, 2},
		{node.New(one, 2, 20, 0, nil), one, []api.Pair{a, b, top, a}, 3},
		{one, node.New(one, 2, 20, 0, nil), []api.Pair{a, top, a, b}, 3},
		{node.New(nil, 2, 20, 0, one), nil, []api.Pair{b, a, top}, 3},
	} {
		x := node.New(c.left, 5, 50, 0, c.right)
		seePairs(t, x, c.want)
		back := slices.Clone(c.want)
		slices.Reverse(back)
		seeBack(t, x, back)
		seeHeight(t, x, c.high)
		if n := look.Count(x); n != len(c.want) {
			t.Errorf("%d nodes, not %d", n, len(c.want))
		}
		seeDeep(t, x, 5, 1)
	}
}

// TestAnyTree (P10.1, P10.2): each tree, by the chapter's words: its pairs either way, its height, how many nodes it has, and how deep each key lies.
func TestAnyTree(t *testing.T) {
	for _, x := range trees() {
		want := pairsOf(x)
		seePairs(t, x, want)
		seeBack(t, x, backOf(x))
		seeHeight(t, x, heightOf(x))
		if n := look.Count(x); n != len(want) {
			t.Errorf("%d nodes, not %d", n, len(want))
		}
		for _, key := range slices.Concat(numbers(), []int64{3, 5}) {
			seeDeep(t, x, key, deepOf(x, key))
		}
		for _, key := range strangers() {
			seeDeep(t, x, key, 0)
		}
	}
}

// TestHigherSide (P10.2): the height goes by the higher side, whichever it is, also where that has fewer nodes.
func TestHigherSide(t *testing.T) {
	for high := range 12 {
		for other := range 12 {
			deep, wide := chain(high, high%2 == 0), full(other, 1)
			seeHeight(t, node.New(deep, 1, 1, 0, wide), 1+max(high, other))
			seeHeight(t, node.New(wide, 1, 1, 0, deep), 1+max(high, other))
		}
	}
}

// TestDeepOfFirst (P10.2): of several nodes of a key the first one counts, from left to right, not the highest one, nor the deepest one.
func TestDeepOfFirst(t *testing.T) {
	low := node.New(nil, 1, 0, 0, node.New(leaf(9, 1), 2, 0, 0, nil))
	seeDeep(t, low, 9, 3)
	for _, c := range []struct {
		tree *node.Node
		want int
	}{
		{node.New(low, 9, 2, 0, nil), 4},
		{node.New(nil, 9, 2, 0, low), 1},
		{node.New(low, 3, 0, 0, leaf(9, 2)), 4},
		{node.New(leaf(9, 2), 3, 0, 0, low), 2},
		{node.New(leaf(3, 0), 9, 2, 0, low), 1},
		{node.New(node.New(nil, 9, 2, 0, low), 9, 3, 0, leaf(9, 4)), 2},
		{node.New(node.New(low, 9, 2, 0, low), 9, 3, 0, leaf(9, 4)), 5},
		{node.New(low, 4, 0, 0, low), 4},
		{node.New(leaf(4, 0), 5, 0, 0, low), 4},
	} {
		seeDeep(t, c.tree, 9, c.want)
	}
}

// TestKeysInNoOrder (P10.2): a key is in a tree wherever it stands: nobody leans on keys that rise.
func TestKeysInNoOrder(t *testing.T) {
	x := node.New(node.New(leaf(9, 0), 8, 0, 0, leaf(7, 0)), 5, 0, 0, node.New(leaf(3, 0), 2, 0, 0, leaf(math.MinInt64, 0)))
	for key, deep := range map[int64]int{5: 1, 8: 2, 2: 2, 9: 3, 7: 3, 3: 3, math.MinInt64: 3, 4: 0, 6: 0, 0: 0, math.MaxInt64: 0} {
		seeDeep(t, x, key, deep)
	}
}
