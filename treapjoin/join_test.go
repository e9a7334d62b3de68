package treapjoin_test

import (
	"math"
	"slices"
	"testing"

	"joinery/api"
	"joinery/node"
	"joinery/share"
	"joinery/treap"
	"joinery/treapjoin"
)

// TestExample (P21.1): the chapter's own.
func TestExample(t *testing.T) {
	one, two, three := api.Item{Key: 1, Tag: 5}, api.Item{Key: 2, Tag: 6}, api.Item{Key: 3, Tag: 7}
	x := seeJoin(t, treap.Of(one), two, treap.Of(three))
	seeSame(t, x, over(over(leaf(one), two, nil), three, nil))
}

// TestEmpty (P21.1, P21.2): of two empty trees, with tags, keys and values of all sizes: the item's node alone.
func TestEmpty(t *testing.T) {
	for _, x := range someItems(keys(), tags()) {
		seeSame(t, seeJoin(t, nil, x, nil), leaf(x))
		for _, val := range keys() {
			x.Val = val
			seeSame(t, seeJoin(t, nil, x, nil), leaf(x))
		}
	}
}

// TestEmptyAndOther (P21.1, P21.2): of an empty tree and another one, on either side.
func TestEmptyAndOther(t *testing.T) {
	for _, trees := range heapsOf(4, fewItems()) {
		for _, a := range trees {
			for _, x := range fewItems() {
				seeBoth(t, a, x, nil)
			}
		}
	}
	c := chance(1)
	for count := range 200 {
		a := c.heap(count, item(7, top))
		seeBoth(t, a, c.anyItem(a, nil), nil)
		row := c.unlike(count + 1)
		a = treap.Of(row[1:]...)
		seeBoth(t, a, row[0], nil)
	}
}

// TestTwoNodes (P21.1, P21.2): of two trees of one node, and an item, each of tags and keys of all sizes.
func TestTwoNodes(t *testing.T) {
	l := someItems([]int64{math.MinInt64, -1, 0, math.MaxInt64}, []uint64{0, 1, 1<<63 - 1, 1 << 63, top})
	for _, a := range l {
		for _, x := range l {
			for _, b := range l {
				all := seeJoin(t, leaf(a), x, leaf(b))
				if root := itemOf(all); isAbove(a, root) || isAbove(x, root) || isAbove(b, root) {
					t.Errorf("of %v, %v, %v the root is %v", a, x, b, root)
				}
			}
		}
	}
}

// TestSmall (P21.1, P21.2): all pairs of small trees that may be, and every item, of small tags and keys.
func TestSmall(t *testing.T) {
	bySize := heapsOf(4, fewItems())
	few, all := slices.Concat(bySize[:4]...), slices.Concat(bySize...)
	if len(few) != 1+4+20+110 {
		t.Fatalf("there are %d trees of up to 3 nodes", len(few))
	}
	for _, a := range few {
		for _, b := range few {
			for _, x := range fewItems() {
				seeJoin(t, a, x, b)
			}
		}
	}
	for _, a := range all {
		for _, b := range bySize[1] {
			for _, x := range fewItems() {
				seeBoth(t, a, x, b)
			}
		}
	}
}

// TestRows (P21.1, P21.2): every row of a few items of small tags and keys, parted at each of its places.
func TestRows(t *testing.T) {
	see := func(l []api.Item) {
		for at := range l {
			a, x, b := parted(l, at)
			all := seeJoin(t, a, x, b)
			if areUnlike(l) {
				seeSame(t, all, treeByWords(l))
			}
		}
	}
	for count := range 5 {
		rows(count, someItems([]int64{-1, 0}, []uint64{0, 1 << 63}), see)
		rows(count, someItems([]int64{-1, 0, 1, math.MaxInt64}, []uint64{top}), see)
		rows(count, someItems([]int64{4}, []uint64{0, 1, 1<<63 - 1, 1 << 63}), see)
	}
	rows(4, someItems([]int64{-1, 0, 1}, []uint64{0, top}), see)
}

// TestAnyHeap (P21.1, P21.2): trees of any shape that may be, with any items; many are the same as each other.
func TestAnyHeap(t *testing.T) {
	c := chance(2)
	for range 2000 {
		a, b := c.anyHeap(60), c.anyHeap(60)
		seeBoth(t, a, c.anyItem(a, b), b)
		high := item(keys()[c.below(len(keys()))], tags()[c.below(len(tags()))])
		a, b = c.heap(c.below(60), high), c.heap(c.below(30), high)
		seeBoth(t, a, c.anyItem(a, b), b)
		seeBoth(t, a, high, b)
	}
}

// TestAnyItems (P21.1, P21.2): trees of any items, few of which are the same, and many.
func TestAnyItems(t *testing.T) {
	c := chance(3)
	for count := 1; count < 120; count++ {
		for _, l := range [][]api.Item{c.unlike(count), c.items(count, 2+count/20), c.items(count, 1+count), c.items(count, 1<<20)} {
			a, x, b := parted(l, c.below(count))
			seeJoin(t, a, x, b)
		}
	}
}

// levels are ways to tell items by how many stand above them: by their tags, whatever their keys are, or, where the tags are the same, by their keys.
func levels() []func(level int) api.Item {
	return []func(level int) api.Item{
		func(level int) api.Item { return item(int64(-level), uint64(9000-level)) },
		func(level int) api.Item { return item(int64(level), uint64(9000-level)) },
		func(level int) api.Item { return item(5, 1<<63+4000-uint64(level)) },
		func(level int) api.Item { return item(math.MaxInt64-int64(level), top-uint64(level)) },
		func(level int) api.Item { return item(4000-int64(level), 7) },
		func(level int) api.Item { return item(math.MaxInt64-int64(level), top) },
		func(level int) api.Item { return item(math.MinInt64+9000-int64(level), 0) },
	}
}

// waysOf are two trees whose inner ways have items of the first levels, but of one, each on the side that is told; on its outer side each has a tree of so many nodes, of levels far below.
func waysOf(at func(level int) api.Item, sides []bool, but, outer int) (l, r *node.Node) {
	for k, isLeft := range slices.Backward(sides) {
		level := k
		if k >= but {
			level++
		}
		side := deepOver(nil, outer, k%ways, func(n int) api.Item { return at(4000 - outer*k - n) })
		if isLeft {
			l = over(side, at(level), l)
		} else {
			r = over(r, at(level), side)
		}
	}
	return l, r
}

// deepOf is how many nodes stand in a tree above the first one of that item.
func deepOf(x *node.Node, at api.Item) int {
	open := []*node.Node{x}
	for deep := 0; len(open) > 0; deep++ {
		var next []*node.Node
		for _, n := range open {
			if n != nil && itemOf(n) == at {
				return deep
			}
			if n != nil {
				next = append(next, n.Left(), n.Right())
			}
		}
		open = next
	}
	return -1
}

// TestEachPlace (P21.1, P21.2): inner ways whose nodes stand above each other in any order across both trees, and an item at each place among them: above all, above none, above some of each; by tags, by keys.
func TestEachPlace(t *testing.T) {
	for _, at := range levels() {
		for count := range 7 {
			for bits := range 1 << count {
				sides := make([]bool, count)
				for k := range sides {
					sides[k] = bits>>k&1 == 1
				}
				for place := range count + 1 {
					l, r := waysOf(at, sides, place, (bits+place)%3)
					seeMost(t, l, r, count+1)
					all := seeJoin(t, l, at(place), r)
					if deep := deepOf(all, at(place)); deep != place {
						t.Errorf("%d nodes stand above the item, not %d", deep, place)
					}
				}
			}
		}
	}
}

// TestOneAboveOther (P21.1, P21.2): a left tree all of which stands above all of the right one, and the other way round; an item that stands above both, between them, below both, anywhere among either.
func TestOneAboveOther(t *testing.T) {
	c := chance(4)
	for range 60 {
		for _, at := range levels() {
			high, low := 1+c.below(20), 1+c.below(20)
			var l []api.Item
			for level := range high + low + 1 {
				l = append(l, at(level))
			}
			between := l[high]
			upper, lower := treap.Of(c.mingled(l[:high])...), treap.Of(c.mingled(l[high+1:])...)
			seeBoth(t, upper, between, lower)
			above, below := l[0], l[high+low]
			seeBoth(t, treap.Of(c.mingled(l[1:high+1])...), above, lower)
			seeBoth(t, upper, below, treap.Of(c.mingled(l[high:high+low])...))
			place := c.below(high)
			seeBoth(t, treap.Of(c.mingled(without(l[:high+1], place))...), l[place], lower)
			place = c.below(low)
			seeBoth(t, upper, l[high+1+place], treap.Of(c.mingled(without(l[high:], place+1))...))
		}
	}
}

// without are the same items but one.
func without(l []api.Item, at int) []api.Item { return slices.Concat(l[:at], l[at+1:]) }

// mingled are the same items in another order.
func (c *chance) mingled(l []api.Item) []api.Item {
	l = slices.Clone(l)
	for k := range l {
		other := c.below(len(l))
		l[k], l[other] = l[other], l[k]
	}
	return l
}

// TestAbove (P21.1, P21.2): an item that stands above all of both trees is the root, whatever they are.
func TestAbove(t *testing.T) {
	c := chance(5)
	for range 300 {
		a, b := c.heap(c.below(60), item(3, 1<<63)), c.heap(c.below(60), item(3, 1<<63))
		for _, x := range []api.Item{item(-9, 1<<63+1), item(4, 1<<63), item(math.MinInt64, top), item(math.MaxInt64, 1<<63)} {
			all := seeJoin(t, a, x, b)
			if itemOf(all) != x {
				t.Errorf("the root is %v, not %v", itemOf(all), x)
			}
		}
	}
}

// seeOuter fails the test, unless what lies outside of the inner ways of two trees stands in their join, too: the very same nodes.
func seeOuter(t *testing.T, all, l, r *node.Node) {
	t.Helper()
	for n := l; n != nil; n = n.Right() {
		if n.Left() != nil && !share.In(all, n.Left()) {
			t.Errorf("what is left of %v is not the same as before", itemOf(n))
		}
	}
	for n := r; n != nil; n = n.Left() {
		if n.Right() != nil && !share.In(all, n.Right()) {
			t.Errorf("what is right of %v is not the same as before", itemOf(n))
		}
	}
}

// TestBelow (P21.1, P21.2): an item that stands above no node of the trees, which are of unlike items: each node of both inner ways stands above it, and all others are the very same ones as before, however many they are.
func TestBelow(t *testing.T) {
	c := chance(6)
	for count := range 200 {
		l := c.unlike(count + 1)
		for k := range l {
			l[k].Tag++
		}
		x := item(9, 0)
		at := c.below(count + 1)
		a, b := treap.Of(l[:at]...), treap.Of(l[at:]...)
		all := seeJoin(t, a, x, b)
		seeOuter(t, all, a, b)
		if fresh, most := share.New(all, a, b), mostOf(a, b); fresh != most || deepOf(all, x) != most-1 {
			t.Errorf("%d nodes are new, and %d stand above the item, not %d, %d", fresh, deepOf(all, x), most, most-1)
		}
	}
}

// TestOneTag (P21.1, P21.2): items of one tag, where keys tell: such as rise, fall, do both, are the same, across both trees and the item.
func TestOneTag(t *testing.T) {
	for _, tag := range tags() {
		var rise []api.Item
		for _, key := range keys() {
			rise = append(rise, item(key, tag))
		}
		fall := slices.Clone(rise)
		slices.Reverse(fall)
		same := slices.Repeat([]api.Item{item(7, tag)}, 11)
		for _, l := range [][]api.Item{rise, fall, same, slices.Concat(rise, fall), slices.Concat(fall, rise), slices.Concat(rise, rise), slices.Concat(same, rise, fall), slices.Concat(fall, same, rise)} {
			for at := range l {
				a, x, b := parted(l, at)
				seeJoin(t, a, x, b)
			}
		}
	}
}

// TestSameItems (P21.1, P21.2): items that are the same as each other, but for their values: in one tree, in both, and as the item; in trees of any shape.
func TestSameItems(t *testing.T) {
	c := chance(7)
	x, low, high := item(5, 1<<40), item(4, 1<<40), item(5, 1<<40+1)
	for _, val := range keys() {
		y := x
		y.Val = val
		for range 20 {
			a, b := c.heap(c.below(30), x), c.heap(c.below(30), x)
			seeBoth(t, a, y, b)
			seeBoth(t, a, y, nil)
			seeBoth(t, flat(c.below(5), x), y, flat(c.below(5), x))
			seeBoth(t, flat(c.below(5), x), low, flat(c.below(5), y))
			seeBoth(t, flat(c.below(5), x), high, flat(c.below(5), y))
			seeBoth(t, over(a, high, b), y, over(b, x, a))
			seeBoth(t, over(a, high, b), high, over(b, high, a))
			seeBoth(t, over(a, y, nil), low, over(nil, x, b))
			seeBoth(t, deepOver(a, 5, c.below(ways), func(int) api.Item { return y }), x, deepOver(b, 5, c.below(ways), func(int) api.Item { return x }))
		}
	}
	for way := range ways {
		for other := range ways {
			for count := range 9 {
				some := func(k int) api.Item { return withVal(x, int64(k)) }
				seeJoin(t, deepOver(nil, count, way, some), x, deepOver(nil, 9-count, other, some))
			}
		}
	}
}

// withVal is an item like it, of another value.
func withVal(x api.Item, val int64) api.Item {
	x.Val = val
	return x
}

// TestValues (P21.1): values of all sizes, which tell nothing of what stands above: sums are what they come to, also where they go round.
func TestValues(t *testing.T) {
	c := chance(8)
	var around int
	for range 300 {
		l := c.unlike(1 + c.below(40))
		for k := range l {
			l[k].Val = keys()[c.below(len(keys()))]
		}
		a, x, b := parted(l, c.below(len(l)))
		all := seeJoin(t, a, x, b)
		sum, far := int64(0), 0.0
		for _, y := range l {
			sum, far = sum+y.Val, far+float64(y.Val)
		}
		if all.Sum() != sum || all.Size() != len(l) {
			t.Errorf("the sum %d, the size %d, not %d, %d", all.Sum(), all.Size(), sum, len(l))
		}
		if math.Abs(far) > 1<<63 {
			around++
		}
	}
	if around < 20 {
		t.Errorf("of the test's own sums %d go round", around)
	}
	x := api.Item{Key: 1, Val: math.MaxInt64, Tag: 2}
	if all := seeJoin(t, leaf(x), x, leaf(x)); all.Sum() != math.MaxInt64-2 || all.Size() != 3 {
		t.Errorf("the sum %d, the size %d", all.Sum(), all.Size())
	}
}

// TestKeysInNoOrder (P21.1): keys need not rise: such as fall, are the same, the least and the greatest, in trees whose tags tell alone.
func TestKeysInNoOrder(t *testing.T) {
	c := chance(9)
	for range 200 {
		for _, keyAt := range []func(k int) int64{
			func(k int) int64 { return int64(-k) },
			func(k int) int64 { return 4 },
			func(k int) int64 { return math.MinInt64 + int64(k%2) },
			func(k int) int64 { return math.MaxInt64 - int64(k%3) },
			func(k int) int64 { return keys()[k%len(keys())] },
		} {
			l := c.unlike(1 + c.below(50))
			for k := range l {
				l[k].Key, l[k].Tag = keyAt(k), l[k].Tag*60+uint64(l[k].Key)
			}
			a, x, b := parted(l, c.below(len(l)))
			seeJoin(t, a, x, b)
		}
	}
}

// TestShared (P21.1, P21.2): one tree with itself, trees that share sides, and trees that stand in each other.
func TestShared(t *testing.T) {
	c := chance(10)
	for range 300 {
		x := c.anyHeap(60)
		if c.below(2) == 0 {
			x = treap.Of(c.unlike(c.below(60))...)
		}
		at := c.anyItem(x, x)
		seeJoin(t, x, at, x)
		for _, part := range []*node.Node{x.Left(), x.Right(), x.Left().Right(), x.Right().Left(), x.Left().Left().Right()} {
			seeBoth(t, x, at, part)
			whole := seeJoin(t, part, at, part)
			seeBoth(t, x, c.anyItem(x, whole), whole)
		}
		seeBoth(t, x.Left(), at, x.Right())
		high := item(math.MaxInt64, top)
		seeBoth(t, over(x.Left(), high, x.Right()), at, over(x.Left(), high, x.Right()))
		seeBoth(t, over(x, high, nil), at, over(nil, high, x))
	}
}

// TestAgain (P21.1, P21.2): joins of joins, and of what is left and right in them, in any order, of trees that were made so and stand in many others.
func TestAgain(t *testing.T) {
	c := chance(11)
	l := make([]*node.Node, 30)
	great := 0
	for range 3000 {
		a, b := l[c.below(len(l))], l[c.below(len(l))]
		x := seeJoin(t, a, c.anyItem(a, b), b)
		if x.Size() > 200 {
			great++
			l[c.below(len(l))] = x.Left().Right()
			x = x.Right().Left().Left()
		}
		l[c.below(len(l))] = x
	}
	if great < 100 {
		t.Errorf("of the test's own joins %d are great", great)
	}
}

// TestSameAnswer (R6): a join hangs on what is given alone: asked again, behind others, it looks the same, and is another one.
func TestSameAnswer(t *testing.T) {
	c := chance(12)
	for range 500 {
		a, b := c.anyHeap(60), c.anyHeap(60)
		at := c.anyItem(a, b)
		x := treapjoin.Join(a, at, b)
		treapjoin.Join(b, c.anyItem(b, a), a)
		y := treapjoin.Join(a, at, b)
		if x == y {
			t.Fatal("one node was made twice")
		}
		seeSame(t, x, y)
	}
}
