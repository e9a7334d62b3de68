package treap_test

import (
	"runtime/debug"
	"slices"
	"testing"

	"joinery/api"
	"joinery/mix"
	"joinery/node"
	"joinery/treap"
)

// seeOf fails the test, unless Of of items is their tree, by the chapter's words, and Items of it are these.
func seeOf(t *testing.T, l ...api.Item) {
	t.Helper()
	x := treap.Of(l...)
	seeSame(t, x, treeByWords(l))
	seeItems(t, x, l)
}

// TestExample (P20.2): the chapter's own.
func TestExample(t *testing.T) {
	x := treap.Of(api.Item{Key: 1, Tag: 5}, api.Item{Key: 2, Tag: 9}, api.Item{Key: 3, Tag: 5})
	leaf := func(key int64) *node.Node { return node.New(nil, key, 0, 5, nil) }
	seeSame(t, x, node.New(leaf(1), 2, 0, 9, leaf(3)))
}

// TestOfFew (P20.2): of no items, and of one, of each tag and key.
func TestOfFew(t *testing.T) {
	for _, l := range [][]api.Item{nil, {}} {
		if x := treap.Of(l...); x != nil {
			t.Errorf("Of no items: %s", lineOf(x))
		}
	}
	for _, tag := range tags() {
		for _, key := range keys() {
			x := item(key, tag)
			seeSame(t, treap.Of(x), over(nil, x, nil))
		}
	}
}

// itemsAt are some items, whose tags and keys are told by the place.
func itemsAt(count int, tag func(k int) uint64, key func(k int) int64) []api.Item {
	var l []api.Item
	for k := range count {
		l = append(l, api.Item{Key: key(k), Val: int64(k), Tag: tag(k)})
	}
	return l
}

// TestOfTags (P20.2): items whose tags rise stand to the left of each next one; such whose tags fall to the right of the one ahead.
func TestOfTags(t *testing.T) {
	for _, high := range []uint64{0, 1<<63 - 4, top - 7} {
		for _, key := range []func(k int) int64{func(k int) int64 { return 5 }, func(k int) int64 { return int64(k) }, func(k int) int64 { return int64(-k) }} {
			rise := itemsAt(8, func(k int) uint64 { return high + uint64(k) }, key)
			seeSame(t, treap.Of(rise...), deepOver(nil, 8, leftward, func(k int) api.Item { return rise[k] }))
			fall := itemsAt(8, func(k int) uint64 { return high + 7 - uint64(k) }, key)
			seeSame(t, treap.Of(fall...), deepOver(nil, 8, rightward, func(k int) api.Item { return fall[7-k] }))
			seeOf(t, append(rise, fall...)...)
			seeOf(t, append(fall, rise...)...)
		}
	}
	seeOf(t, item(1, 1), item(2, 0), item(3, top), item(4, 1<<63), item(5, 1<<63-1), item(6, top-1))
}

// TestOfKeys (P20.2): of items of the same tag the keys tell, as they rise, as they fall, as they do both, by their numbers, also below 0.
func TestOfKeys(t *testing.T) {
	for _, tag := range tags() {
		same := func(k int) uint64 { return tag }
		rise := itemsAt(len(keys()), same, func(k int) int64 { return keys()[k] })
		seeSame(t, treap.Of(rise...), deepOver(nil, len(rise), leftward, func(k int) api.Item { return rise[k] }))
		fall := slices.Clone(rise)
		slices.Reverse(fall)
		seeSame(t, treap.Of(fall...), deepOver(nil, len(fall), rightward, func(k int) api.Item { return rise[k] }))
		seeOf(t, append(rise, fall...)...)
		seeOf(t, append(fall, rise...)...)
	}
}

// TestOfSame (P20.2): of items that have the same tag and key the first one is the root, whatever their values are.
func TestOfSame(t *testing.T) {
	for _, tag := range tags() {
		for count := 1; count < 9; count++ {
			rise := itemsAt(count, func(k int) uint64 { return tag }, func(k int) int64 { return 7 })
			seeSame(t, treap.Of(rise...), deepOver(nil, count, rightward, func(k int) api.Item { return rise[count-1-k] }))
			slices.Reverse(rise)
			seeSame(t, treap.Of(rise...), deepOver(nil, count, rightward, func(k int) api.Item { return rise[count-1-k] }))
		}
	}
	a, b, low := item(7, 3), item(7, 3), item(0, 1)
	b.Val = -1
	seeSame(t, treap.Of(low, a, low, b, low), over(over(nil, low, nil), a, over(over(nil, low, nil), b, over(nil, low, nil))))
	seeSame(t, treap.Of(b, low, low, a), over(nil, b, over(over(nil, low, over(nil, low, nil)), a, nil)))
}

// TestOfRows (P20.2): every row of a few items of small tags and keys, and of items of all sizes.
func TestOfRows(t *testing.T) {
	see := func(l []api.Item) { seeOf(t, l...) }
	for count := range 6 {
		rows(count, someItems([]int64{-1, 0}, []uint64{0, 1}), see)
	}
	for count := range 7 {
		rows(count, someItems([]int64{4}, []uint64{0, 1, 1 << 63}), see)
		rows(count, someItems([]int64{-1, 0, 1}, []uint64{4}), see)
	}
	rows(2, someItems(keys(), tags()), see)
	c := chance(3)
	for range 1000 {
		seeOf(t, c.items(c.below(60), 1+c.below(40))...)
	}
}

// TestOfMany (R1, P20.2): very many items, of any tags and keys, few of them alike and many, and such as rise or fall to the end, which need no memory of calls for each of them.
func TestOfMany(t *testing.T) {
	const many = 200_000
	c := chance(4)
	defer debug.SetMaxStack(debug.SetMaxStack(1 << 18))
	up, down := func(k int) uint64 { return uint64(k) }, func(k int) uint64 { return uint64(many - k) }
	five := func(k int) int64 { return 5 }
	for _, l := range [][]api.Item{c.items(many, 1<<30), c.items(many, 30), itemsAt(many, up, five), itemsAt(many, down, five), itemsAt(many, func(int) uint64 { return 3 }, five)} {
		x := treap.Of(l...)
		seeMay(t, x)
		if x.Size() != many || !slices.Equal(treap.Items(x), l) {
			t.Errorf("a tree of the size %d, of other items than were handed in", x.Size())
		}
	}
}

// TestOfSlice (R5, P20.2): a slice that is handed in stays as it was, also what lies behind its end; if it is changed later, the tree is not.
func TestOfSlice(t *testing.T) {
	c := chance(5)
	for count := range 40 {
		whole := c.items(count+5, 20)
		was := slices.Clone(whole)
		x := treap.Of(whole[:count]...)
		if !slices.Equal(whole, was) {
			t.Errorf("%v became %v", was, whole)
		}
		for k := range whole {
			whole[k] = item(int64(k), top)
		}
		seeSame(t, x, treeByWords(was[:count]))
	}
}

// TestItems (P20.2): of the empty tree, of one node, of ordinary ones.
func TestItems(t *testing.T) {
	a, b, c := item(3, 2), item(1, 9), item(-2, 5)
	l, r := over(nil, a, nil), over(nil, c, nil)
	seeItems(t, nil, nil)
	seeItems(t, l, []api.Item{a})
	seeItems(t, over(l, b, nil), []api.Item{a, b})
	seeItems(t, over(nil, b, r), []api.Item{b, c})
	seeItems(t, over(l, b, r), []api.Item{a, b, c})
	seeItems(t, over(over(l, b, nil), b, over(r, c, nil)), []api.Item{a, b, b, c, c})
	for _, tag := range tags() {
		for _, key := range keys() {
			seeItems(t, over(nil, item(key, tag), nil), []api.Item{item(key, tag)})
		}
	}
}

// TestItemsAny (P20.2): of trees that may not be, of every small one, and of such as share sides.
func TestItemsAny(t *testing.T) {
	a, b := item(3, 2), item(1, 9)
	x := over(nil, b, over(nil, a, nil))
	seeItems(t, over(x, a, x), []api.Item{b, a, a, b, a})
	seeItems(t, over(nil, a, x), []api.Item{a, b, a})
	y := over(x, b, x)
	seeItems(t, over(y, a, y), []api.Item{b, a, b, b, a, a, b, a, b, b, a})
	for count := range 5 {
		for _, x := range shapes(count, someItems([]int64{0, 1}, []uint64{0, 1})) {
			seeItems(t, x, itemsByWords(x))
		}
	}
	c := chance(6)
	for _, x := range c.grove(500) {
		seeItems(t, x, itemsByWords(x))
	}
	seeItems(t, twins(12), itemsByWords(twins(12)))
}

// TestItemsDeep (R1, P20.2): of trees that are as deep as they have nodes, which need no memory of calls for each of them.
func TestItemsDeep(t *testing.T) {
	const deep = 200_000
	defer debug.SetMaxStack(debug.SetMaxStack(1 << 18))
	for way := range ways {
		var l, r []api.Item
		x := deepOver(nil, deep, way, func(k int) api.Item {
			at := item(int64(k), uint64(k%7))
			if way == leftward || way == zigzag && k%2 == 0 {
				l = append(l, at)
			} else {
				r = append(r, at)
			}
			return at
		})
		// What has all below it on its right stands the further left, the higher it stands.
		slices.Reverse(r)
		if !slices.Equal(treap.Items(x), append(r, l...)) {
			t.Errorf("the way %d: other items", way)
		}
	}
}

// TestItemsNew (R5, P20.2): an answer that is changed changes neither the tree nor another answer.
func TestItemsNew(t *testing.T) {
	x := treap.Of(item(1, 5), item(2, 9), item(3, 7))
	l, other := treap.Items(x), treap.Items(x)
	l[0], l[2] = item(0, 0), item(0, 1)
	want := []api.Item{item(1, 5), item(2, 9), item(3, 7)}
	if !slices.Equal(other, want) {
		t.Errorf("%v, not %v", other, want)
	}
	seeItems(t, x, want)
}

// seeMixed fails the test, unless Mixed of a tree is that.
func seeMixed(t *testing.T, x *node.Node, is bool) {
	t.Helper()
	if got := treap.Mixed(x); got != is {
		t.Errorf("Mixed(%s): %t", lineOf(x), got)
	}
}

// TestMixed (P20.2): the empty tree, one node, and trees of which all tags are mixed, whether they may be or not.
func TestMixed(t *testing.T) {
	seeMixed(t, nil, true)
	for _, key := range keys() {
		own := mix.Of(key)
		seeMixed(t, over(nil, item(key, own), nil), true)
		for _, tag := range append(tags(), own+1, own-1, ^own, own^1<<63, mix.Mix(uint64(key)), mix.Of(key+1), mix.Of(ownAgain(key)), uint64(key)) {
			seeMixed(t, over(nil, item(key, tag), nil), false)
		}
	}
	// What 0, mixed with what Of adds, comes to.
	seeMixed(t, node.New(nil, 0, 7, 0xe220a8397b1dcdaf, nil), true)
	c := chance(7)
	for _, x := range append(c.grove(300), flat(7, item(0, 0)), treap.Of(treap.Items(mixedLike(flat(7, item(0, 0))))...)) {
		seeMixed(t, mixedLike(x), true)
	}
	a, b := item(1, mix.Of(1)), item(2, mix.Of(2))
	for _, x := range []*node.Node{over(over(nil, a, nil), b, nil), over(over(nil, b, nil), a, nil), over(nil, a, over(nil, b, nil)), over(nil, b, over(nil, a, nil))} {
		seeMixed(t, x, true)
	}
}

// ownAgain is what a key, mixed, is as a key.
func ownAgain(key int64) int64 { return int64(mix.Of(key)) }

// TestMixedEachPlace (P20.2): trees of which one node's tag alone is not mixed, at each place; its value tells nothing.
func TestMixedEachPlace(t *testing.T) {
	c := chance(8)
	for _, x := range append(c.grove(80), flat(5, item(0, 0)), deepOver(nil, 30, zigzag, func(int) api.Item { return item(0, 0) })) {
		x = mixedLike(x)
		for at := range x.Size() {
			spoilt := func(by api.Item) *node.Node {
				return changed(x, func(place int, x api.Item) api.Item {
					if place == at {
						return api.Item{Key: x.Key + by.Key, Val: x.Val + by.Val, Tag: x.Tag + by.Tag}
					}
					return x
				})
			}
			seeMixed(t, spoilt(api.Item{Tag: 1}), false)
			seeMixed(t, spoilt(api.Item{Tag: 1 << 63}), false)
			seeMixed(t, spoilt(api.Item{Key: 1}), false)
			seeMixed(t, spoilt(api.Item{Val: 1}), true)
		}
	}
}

// TestMixedMany (R1, P20.2): trees whose nodes stand in more places than could be gone over, and such as are as deep as they have nodes.
func TestMixedMany(t *testing.T) {
	const deep = 200_000
	defer debug.SetMaxStack(debug.SetMaxStack(1 << 18))
	own := func(k int) api.Item { return item(int64(k), mix.Of(int64(k))) }
	bad := over(nil, item(1, 1), nil)
	for way := range ways {
		seeMixed(t, deepOver(nil, deep, way, own), true)
		seeMixed(t, deepOver(bad, deep, way, own), false)
	}
	var x *node.Node
	for k := range 90 {
		x = over(x, own(k), x)
		if !treap.Mixed(x) || treap.Mixed(over(x, item(1, 1), x)) || treap.Mixed(over(x, own(k), over(x, own(k), bad))) {
			t.Errorf("twins that are %d high", k+1)
		}
	}
}
