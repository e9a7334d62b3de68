package treapjoin_test

import (
	"math"
	"runtime/debug"
	"testing"

	"joinery/api"
	"joinery/node"
	"joinery/treap"
)

// seeTwo fails the test, unless Most of two trees is that, and, each turned about, with the other one on the left.
func seeTwo(t *testing.T, l, r *node.Node, want int) {
	t.Helper()
	seeMost(t, l, r, want)
	seeMost(t, mirrored(r), mirrored(l), want)
}

// mirrored is a tree turned about.
func mirrored(x *node.Node) *node.Node {
	if x == nil {
		return nil
	}
	return over(mirrored(x.Right()), itemOf(x), mirrored(x.Left()))
}

// TestMost (P21.2): of two empty trees, of one, of trees of short and of long inner ways, of trees whose outer sides are large, which do not count.
func TestMost(t *testing.T) {
	x := item(5, 6)
	same := func(int) api.Item { return x }
	one, chain := leaf(x), deepOver(nil, 30, leftward, same)
	long, large := deepOver(nil, 30, rightward, same), flat(7, x)
	for _, c := range []struct {
		l, r *node.Node
		want int
	}{
		{nil, nil, 1}, {one, nil, 2}, {nil, one, 2}, {one, one, 3},
		{long, nil, 31}, {chain, nil, 2}, {nil, long, 2}, {nil, chain, 31},
		{long, chain, 61}, {chain, long, 3}, {long, long, 32}, {chain, chain, 32},
		{large, nil, 8}, {large, large, 15}, {over(large, x, nil), one, 3}, {one, over(nil, x, large), 3},
		{over(large, x, over(large, x, nil)), over(over(nil, x, large), x, large), 5},
		{over(large, x, one), over(chain, x, large), 34}, {over(large, x, large), over(long, x, large), 11},
		{over(one, x, chain), over(long, x, one), 5}, {over(nil, x, long), over(chain, x, nil), 63},
		{deepOver(nil, 30, zigzag, same), one, 4}, {deepOver(one, 31, zigzag, same), deepOver(one, 30, zigzag, same), 3},
	} {
		seeTwo(t, c.l, c.r, c.want)
	}
}

// TestMostOfAny (P21.2): of trees of any shape, which may be, and which may not: tags and keys tell nothing of it.
func TestMostOfAny(t *testing.T) {
	c := chance(30)
	for range 500 {
		a, b := c.anyHeap(100), c.anyHeap(100)
		seeTwo(t, a, b, mostOf(a, b))
	}
	l := c.grove(100)
	for _, a := range l {
		for _, b := range l {
			seeMost(t, a, b, mostOf(a, b))
		}
	}
	for _, x := range someItems(keys(), tags()) {
		for _, y := range []api.Item{item(0, 0), item(-1, top), item(1, 1<<63)} {
			seeTwo(t, over(leaf(x), y, leaf(x)), leaf(x), 4)
			seeTwo(t, over(nil, x, over(leaf(y), x, nil)), over(leaf(y), x, leaf(y)), 5)
		}
	}
}

// TestMostOfMany (R1, P21.2): of trees whose nodes stand in more places than could be gone over, and of such as are as deep as they have nodes, which need no memory of calls for each of them.
func TestMostOfMany(t *testing.T) {
	const deep = 200_000
	for high := range 90 {
		for low := 0; low < 90; low += 7 {
			seeMost(t, twins(high, 1), twins(low, 1), high+1+low)
		}
	}
	defer debug.SetMaxStack(debug.SetMaxStack(1 << 18))
	same := func(int) api.Item { return item(3, 3) }
	onLeft, onRight, both := deepOver(nil, deep, leftward, same), deepOver(nil, deep, rightward, same), deepOver(nil, deep, zigzag, same)
	seeMost(t, onLeft, onRight, 3)
	seeMost(t, onRight, onLeft, 2*deep+1)
	seeMost(t, onLeft, onLeft, deep+2)
	seeMost(t, onRight, nil, deep+1)
	seeMost(t, both, both, 4)
}

// longWays are two trees of so many nodes each, all of them on their inner ways, which stand above each other by turns: of the levels 2, 6, 10, and so on, and of 4, 8, 12.
func longWays(count int, at func(level int) api.Item) (l, r *node.Node) {
	l = deepOver(nil, count, rightward, func(k int) api.Item { return at(4*(count-k) - 2) })
	r = deepOver(nil, count, leftward, func(k int) api.Item { return at(4 * (count - k)) })
	return l, r
}

// byTag and byKey tell the item of a level, by its tag, or, as all tags are the same, by its key.
func byTag(level int) api.Item { return item(int64(level), top-uint64(level)) }
func byKey(level int) api.Item { return item(math.MaxInt64-int64(level), 9) }

// TestLongWays (P21.1, P21.2): trees whose inner ways are as long as they have nodes, in both, with an item at each place: above all of them, above some, above none, the same as one.
func TestLongWays(t *testing.T) {
	for _, at := range []func(level int) api.Item{byTag, byKey} {
		for count := range 30 {
			l, r := longWays(count, at)
			seeMost(t, l, r, 2*count+1)
			for level := range 4*count + 4 {
				seeBoth(t, l, at(level), r)
			}
		}
	}
}

// TestDeep (R1, P21.1, P21.2): trees that are as deep as they have nodes, whichever way they go, need no memory of calls for each of them: as many of them are new, and stand above the item, as may be, or none.
func TestDeep(t *testing.T) {
	const deep = 100_000
	defer debug.SetMaxStack(debug.SetMaxStack(1 << 18))
	for _, at := range []func(level int) api.Item{byTag, byKey} {
		l, r := longWays(deep, at)
		below := seeJoin(t, l, at(4*deep+1), r)
		if last := below.Size() - 1; deepest(below) != last {
			t.Errorf("of the join %d nodes stand above the lowest one, not %d", deepest(below), last)
		}
		seeJoin(t, l, at(0), r)
		seeJoin(t, l, at(2*deep+1), r)
		seeJoin(t, r, at(4*deep+1), l)
		seeJoin(t, l, at(4*deep+1), nil)
		seeJoin(t, nil, at(4*deep+1), r)
	}
	same := func(int) api.Item { return item(3, 3) }
	for way := range ways {
		x := deepOver(nil, deep, way, same)
		seeJoin(t, x, item(2, 3), x)
		seeJoin(t, x, item(3, 3), x)
		seeJoin(t, x, item(4, 3), x)
	}
}

// deepest is how many nodes stand above the lowest one of a tree none of whose nodes has two sides.
func deepest(x *node.Node) int {
	deep := -1
	for x != nil {
		deep++
		if x.Left() != nil {
			x = x.Left()
		} else {
			x = x.Right()
		}
	}
	return deep
}

// TestLarge (P21.1, P21.2): trees of very many nodes of any items, with an item that stands above few of them, above many, above none.
func TestLarge(t *testing.T) {
	const many = 40_000
	c := chance(31)
	for _, kinds := range []int{1 << 30, 1000, 3} {
		l := c.items(many, kinds)
		for _, at := range []int{0, 1, many / 3, many / 2, many - 1} {
			a, x, b := parted(l, at)
			seeJoin(t, a, x, b)
			x.Tag = uint64(kinds)
			seeJoin(t, a, x, b)
			x.Tag, x.Key = 0, math.MinInt64
			seeJoin(t, a, x, b)
		}
	}
}

// TestManyPlaces (R1, P21.1, P21.2): trees whose nodes stand in more places than could be gone over, and which share most of them.
func TestManyPlaces(t *testing.T) {
	for high := range 62 {
		for _, by := range []uint64{0, 1, 3, 1 << 57} {
			x := twins(high, by)
			low := x.Left().Left()
			for _, at := range []api.Item{item(math.MinInt64, 0), item(1, uint64(high)*by/2), item(int64(high/2), uint64(high/2)*by), item(99, top), item(int64(high)-1, uint64(high)*by-by)} {
				if high < 61 {
					seeHeavy(t, x, at, x)
				}
				seeHeavy(t, x, at, low)
				seeHeavy(t, low, at, x)
				seeHeavy(t, x, at, twins(high/2, by))
				seeHeavy(t, nil, at, x)
			}
		}
	}
}

// TestManyShared (P21.1, P21.2): very large trees that share most of their nodes, each with each: a tree, its sides, and what joins made of these.
func TestManyShared(t *testing.T) {
	const many = 20_000
	c := chance(32)
	x := treap.Of(c.unlike(many)...)
	some := api.Item{Key: many, Val: 1, Tag: many}
	y := seeJoin(t, x.Left(), some, x.Right())
	z := seeJoin(t, x, some, x.Left().Right())
	l := []*node.Node{x, y, z, x.Left(), y.Right(), z.Right()}
	for _, a := range l {
		for _, b := range l {
			seeJoin(t, a, c.anyItem(a, b), b)
		}
	}
}
