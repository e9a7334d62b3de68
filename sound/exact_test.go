package sound_test

import (
	"math"
	"runtime/debug"
	"testing"

	"joinery/api"
	"joinery/node"
	"joinery/sound"
)

// TestExactOfAny (P12.2): every tree is exact: the empty one, leaves, those whose keys rise in no order, those that share nodes.
func TestExactOfAny(t *testing.T) {
	trees := []*node.Node{nil, leaf(0), twins(9), over(leaf(2), 2, leaf(2)), deepTree(inward, rising(api.OrUp, numbers()))}
	for _, shape := range smallShapes(6) {
		trees = append(trees, planted(shape, numbers()[:shape.Size()]))
	}
	for _, x := range trees {
		if !sound.Exact(x) {
			t.Errorf("a tree of %d, %d is not exact", x.Size(), x.Sum())
		}
	}
}

// TestExactSumsGoRound (P12.2): a tree whose sum passes the greatest number, or the least one, is exact.
func TestExactSumsGoRound(t *testing.T) {
	rich := func(l *node.Node, val int64, r *node.Node) *node.Node { return node.New(l, 0, val, 0, r) }
	most, least := rich(nil, math.MaxInt64, nil), rich(nil, math.MinInt64, nil)
	for _, x := range []*node.Node{
		most, least, rich(most, 1, nil), rich(nil, 1, most), rich(most, 1, most), rich(most, math.MaxInt64, most),
		rich(least, -1, nil), rich(least, math.MinInt64, least), rich(rich(least, -1, least), math.MinInt64, rich(nil, -7, least)),
		rich(most, 5, least),
	} {
		if !sound.Exact(x) {
			t.Errorf("a tree of the sum %d is not exact", x.Sum())
		}
	}
}

// TestExactOfGreatTrees (R1, P12.2): deep trees need no memory of calls for each node; nodes that stand in a tree many times are looked at once, also where they are more than an int can tell.
func TestExactOfGreatTrees(t *testing.T) {
	defer debug.SetMaxStack(debug.SetMaxStack(1 << 18))
	keys := rowOf(api.OrUp, 100_000)
	for way := range ways {
		if !sound.Exact(deepTree(way, keys)) {
			t.Errorf("a deep tree, way %d, is not exact", way)
		}
	}
	for _, high := range []int{40, 62, 63, 64, 65, 300} {
		if !sound.Exact(twins(high)) || !sound.Exact(over(leaf(1), 2, twins(high))) {
			t.Errorf("twins %d high are not exact", high)
		}
	}
}

// TestExactLooks (P12.2): a blank node, which no call of package node makes, tells 0 as its size, though it is a node: it is not exact, wherever it lies. (By node's own calls no such tree is made.)
func TestExactLooks(t *testing.T) {
	blank := new(node.Node)
	x := over(leaf(1), 2, leaf(3))
	for _, bad := range []*node.Node{
		blank, over(blank, 1, nil), over(nil, 1, blank), over(x, 4, blank), over(blank, 4, x),
		over(over(x, 4, over(leaf(5), 6, blank)), 7, x), over(x, 0, over(over(blank, 1, leaf(2)), 3, leaf(4))),
	} {
		if sound.Exact(bad) {
			t.Errorf("a tree that tells the size %d is exact", bad.Size())
		}
	}
}
