package share_test

import (
	"math"
	"runtime/debug"
	"testing"

	"joinery/node"
)

// TestExample (P13.1, P13.2): the chapter's own, of an empty x, and of others.
func TestExample(t *testing.T) {
	for _, c := range []struct {
		x    *node.Node
		have int
	}{
		{nil, 0}, {leaf(5), 1}, {leaf(1), 1}, {over(leaf(5), 6, leaf(5)), 3}, {twinsOver(nil, 3), 3}, {full(5), 31},
	} {
		top := node.New(c.x, 1, 0, 0, c.x)
		seeNodes(t, c.x, c.have)
		seeNodes(t, top, c.have+1)
		seeNew(t, 1, top, c.x)
		if c.x == nil {
			seeTops(t, nil, top, c.x)
		} else {
			seeTops(t, list(c.x), top, c.x)
		}
	}
}

// TestNodes (P13.1): of the empty tree, of one node, of trees whose nodes are all of their own, though they look alike.
func TestNodes(t *testing.T) {
	seeNodes(t, nil, 0)
	for _, key := range []int64{0, 1, -1, math.MinInt64, math.MaxInt64} {
		seeNodes(t, leaf(key), 1)
		seeNodes(t, node.New(nil, key, math.MinInt64, math.MaxUint64, nil), 1)
	}
	seeNodes(t, over(leaf(1), 2, nil), 2)
	seeNodes(t, over(nil, 2, leaf(3)), 2)
	seeNodes(t, over(leaf(1), 2, leaf(3)), 3)
	seeNodes(t, over(leaf(1), 1, leaf(1)), 3)
	for high := range 12 {
		seeNodes(t, full(high), 1<<high-1)
	}
}

// TestNodesTwice (P13.1): a node that stands in a tree twice, or many times, counts once, and so does a whole tree, wherever they stand: side by side, deep down, at unlike depths.
func TestNodesTwice(t *testing.T) {
	x := leaf(5)
	tree := over(over(nil, 1, leaf(2)), 3, leaf(4))
	for _, c := range []struct {
		tree *node.Node
		want int
	}{
		{over(x, 1, x), 2},
		{over(x, 5, x), 2},
		{over(x, 1, over(x, 2, nil)), 3},
		{over(over(nil, 1, x), 2, x), 3},
		{over(over(x, 1, x), 2, over(x, 3, x)), 4},
		{over(over(leaf(1), 2, x), 3, over(x, 4, leaf(6))), 6},
		{over(tree, 0, tree), 5},
		{over(tree, 0, over(leaf(1), 2, tree)), 7},
		{over(tree, 0, tree.Left()), 5},
		{over(tree.Right(), 0, tree), 5},
		{over(over(tree, 1, tree), 2, over(tree.Left(), 3, over(tree, 4, tree.Right()))), 8},
		{over(tree, 0, again(tree)), 9},
	} {
		seeNodes(t, c.tree, c.want)
	}
	for high := range 12 {
		seeNodes(t, twinsOver(nil, high), high)
		seeNodes(t, twinsOver(tree, high), high+4)
	}
}

// TestInEmpty (P13.1): an empty node is in no tree, and in the empty tree there is none.
func TestInEmpty(t *testing.T) {
	seeIn(t, nil, nil, false)
	for _, x := range []*node.Node{leaf(0), over(leaf(1), 2, nil), over(nil, 2, leaf(3)), full(4), twinsOver(nil, 5)} {
		seeIn(t, x, nil, false)
		seeIn(t, nil, x, false)
	}
}

// TestIn (P13.1): each node of a tree is in it: its root, what lies deep down, on either side; and so it is in what is made of the tree.
func TestIn(t *testing.T) {
	deep := leaf(9)
	for way := range ways {
		x := deepOver(deep, 50, way)
		seeIn(t, x, x, true)
		seeIn(t, x, deep, true)
		seeIn(t, deep, x, false)
		seeIn(t, over(nil, 0, x), deep, true)
		seeIn(t, over(x, 0, leaf(9)), deep, true)
		seeIn(t, over(leaf(9), 0, x), deep, true)
		seeIn(t, over(x, 0, x), deep, true)
	}
	x := full(5)
	for n := range nodesOf(x) {
		seeIn(t, x, n, true)
		seeIn(t, twinsOver(x, 3), n, true)
		seeIn(t, n, x, n == x)
		seeIn(t, again(x), n, false)
	}
}

// TestInLikeness (P13.1): what only looks like one of a tree's nodes is not in it, nor is what With made of one, also of the same key and value.
func TestInLikeness(t *testing.T) {
	l, r := leaf(1), leaf(3)
	x := over(l, 2, r)
	for _, n := range []*node.Node{
		leaf(1), leaf(3), over(l, 2, r), again(x),
		l.With(1, 0), r.With(3, 0), r.With(4, 0), x.With(2, 0), x.With(1, 0),
	} {
		seeIn(t, x, n, false)
		seeIn(t, over(x, 2, x), n, false)
		seeIn(t, over(x, 2, n), n, true)
	}
	w := x.With(2, 0)
	seeIn(t, w, x, false)
	seeIn(t, w, l, true)
	seeIn(t, w, r, true)
	seeIn(t, w, w, true)
}

// TestNewWithoutOld (P13.1): without old ones, or with empty ones alone, all nodes are new.
func TestNewWithoutOld(t *testing.T) {
	for _, x := range []*node.Node{nil, leaf(1), over(leaf(1), 2, leaf(3)), full(5), twinsOver(nil, 6), twinsOver(full(2), 2)} {
		all := len(nodesOf(x))
		seeNew(t, all, x)
		seeNew(t, all, x, list()...)
		seeNew(t, all, x, nil)
		seeNew(t, all, x, nil, nil, nil)
	}
}

// TestNewOfOne (P13.1): one old tree: the tree itself, one that has all of it, one of its sides, one that shares nothing, one that looks alike, and empty ones among them.
func TestNewOfOne(t *testing.T) {
	l, r := over(leaf(0), 1, nil), leaf(3)
	x := over(l, 2, r)
	for _, c := range []struct {
		old  *node.Node
		want int
	}{
		{x, 0}, {over(x, 9, nil), 0}, {over(nil, 9, over(leaf(4), 5, x)), 0}, {over(x, 9, x), 0},
		{l, 2}, {r, 3}, {l.Left(), 3}, {over(l, 9, nil), 2}, {over(r, 9, r), 3}, {over(l, 2, r), 1}, {over(r, 9, l), 1}, {x.With(2, 0), 1}, {l.With(7, 0), 3},
		{leaf(9), 4}, {full(4), 4}, {again(x), 4}, {again(l), 4}, {r.With(3, 0), 4}, {nil, 4},
	} {
		seeNew(t, c.want, x, c.old)
		seeNew(t, c.want, x, c.old, c.old)
		seeNew(t, c.want, x, nil, c.old)
		seeNew(t, c.want, x, c.old, nil, c.old, nil)
		seeNew(t, 0, nil, c.old)
	}
}

// TestNewOfMany (P13.1): several old trees, which share nodes with the tree and with each other, and one of them twice.
func TestNewOfMany(t *testing.T) {
	a, b, c, d := leaf(1), leaf(3), leaf(5), leaf(7)
	l, r := over(a, 2, b), over(c, 6, d)
	x := over(l, 4, r)
	seeNew(t, 5, x, a, b)
	seeNew(t, 3, x, a, b, c, d)
	seeNew(t, 4, x, l)
	seeNew(t, 4, x, l, a)
	seeNew(t, 4, x, a, l, b)
	seeNew(t, 3, x, l, c)
	seeNew(t, 1, x, l, r)
	seeNew(t, 1, x, r, l, r)
	seeNew(t, 0, x, l, x, r)
	seeNew(t, 2, x, over(l, 9, c), over(d, 9, l), leaf(8))
	seeNew(t, 1, x, over(l, 9, c), over(d, 9, r))
	seeNew(t, 3, x, over(a, 9, b), over(b, 9, c), over(c, 9, d), over(d, 9, a))
	seeNew(t, 1, over(x, 9, x), a, x)
	seeNew(t, 2, over(x, 9, leaf(4)), b, x, r)
	seeNew(t, 1, over(l, 4, r), x)
	seeNew(t, 2, over(l, 4, again(c)), x)
	seeNew(t, 3, over(over(a, 2, c), 4, over(b, 6, d)), x)
}

// TestSame (P13.1): two empty trees, an empty one and another, a tree and itself, trees that share all, some, or none of their nodes, such as only look alike; either way round.
func TestSame(t *testing.T) {
	l, r := over(leaf(0), 1, nil), leaf(3)
	x := over(l, 2, r)
	for _, c := range []struct {
		a, b *node.Node
		want int
	}{
		{nil, nil, 0}, {nil, leaf(0), 0}, {nil, x, 0}, {nil, full(5), 0},
		{r, r, 1}, {x, x, 4}, {full(4), full(4), 0}, {twinsOver(x, 3), x, 4},
		{over(x, 9, nil), x, 4}, {over(nil, 9, x), over(x, 9, nil), 4}, {over(x, 9, x), x, 4}, {over(x, 9, x), over(x, 9, x), 4},
		{l, x, 2}, {r, x, 1}, {l.Left(), x, 1}, {over(l, 2, r), x, 3}, {over(r, 9, r), x, 1}, {x.With(2, 0), x, 3}, {over(l, 9, leaf(3)), x, 2},
		{over(l.Left(), 9, r), x, 2}, {over(leaf(0), 9, over(nil, 8, r)), over(r, 9, r), 1}, {over(l, 9, l), over(l.Left(), 8, l), 2},
		{again(x), x, 0}, {leaf(3), r, 0}, {r.With(3, 0), r, 0}, {l, r, 0}, {leaf(0), over(leaf(0), 0, leaf(0)), 0},
	} {
		seeSame(t, c.a, c.b, c.want)
	}
	f := full(7)
	seeSame(t, f, f, 127)
	seeSame(t, f, f.Left(), 63)
	seeSame(t, f, over(f.Right(), 1, leaf(3)), 63)
}

// TestDeepTrees (R1, P13.1, P13.2): trees that are as deep as they have nodes need no memory of calls for each of them.
func TestDeepTrees(t *testing.T) {
	const deep = 200_000
	defer debug.SetMaxStack(debug.SetMaxStack(1 << 18))
	for way := range ways {
		bottom := over(leaf(1), 2, leaf(3))
		half := deepOver(bottom, deep/2, way)
		x, other := deepOver(half, deep/2, way), deepOver(half, 9, way)
		seeNodes(t, x, deep+3)
		seeNew(t, deep+3, x)
		seeNew(t, deep/2, x, half)
		seeNew(t, deep/2, x, bottom, other)
		seeNew(t, 0, x, x)
		seeIn(t, x, bottom.Right(), true)
		seeIn(t, x, leaf(3), false)
		seeSame(t, x, x, deep+3)
		seeSame(t, x, other, deep/2+3)
		seeTops(t, list(x), x, x)
		seeTops(t, list(half), x, other)
		seeTops(t, list(bottom.Left(), bottom.Right()), x, bottom.Right(), bottom.Left())
		seeTops(t, nil, x, again(bottom))
	}
}

// TestManyPlaces (R1, P13.1, P13.2): trees whose nodes stand in more places than could be gone over, or than an int can tell.
func TestManyPlaces(t *testing.T) {
	for _, high := range []int{40, 62, 63, 64, 65, 1000} {
		x := over(leaf(1), 2, leaf(3))
		half := twinsOver(x, high)
		wide := twinsOver(half, high)
		seeNodes(t, wide, 2*high+3)
		seeNew(t, 1, wide, wide.Left())
		seeNew(t, high, wide, half)
		seeNew(t, 2*high, wide, leaf(9), x)
		seeNew(t, 2*high+1, wide, x.Right(), x.Left())
		seeNew(t, 0, half, x, wide)
		seeIn(t, wide, x.Right(), true)
		seeIn(t, wide, half, true)
		seeIn(t, half, wide, false)
		seeIn(t, wide, leaf(3), false)
		seeSame(t, wide, wide, 2*high+3)
		seeSame(t, wide, twinsOver(half, high), high+3)
		seeSame(t, wide, twinsOver(leaf(1), high), 0)
		seeTops(t, list(wide.Left()), wide, wide.Left())
		seeTops(t, list(half), wide, x, half)
		seeTops(t, list(x), wide, x)
		seeTops(t, list(x.Left(), x.Right()), wide, x.Right(), x.Left())
		seeTops(t, nil, wide, leaf(1))
	}
}
