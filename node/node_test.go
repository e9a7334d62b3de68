package node_test

import (
	"math"
	"math/big"
	"slices"
	"testing"

	"joinery/node"
)

// numbers are keys and values: the least and the greatest, those around 0, others of either sign.
func numbers() []int64 {
	return []int64{
		math.MinInt64, math.MinInt64 + 1, -1 << 62, -1 << 32, -9, -1,
		0, 1, 7, 1 << 32, 1 << 62, math.MaxInt64 - 1, math.MaxInt64,
	}
}

// tags are a scheme's numbers: none, small ones, those about a word's middle, the greatest.
func tags() []uint64 {
	return []uint64{0, 1, 2, 1 << 32, 1<<63 - 1, 1 << 63, math.MaxUint64 - 1, math.MaxUint64}
}

// numberAt and tagAt are one for each place, which go round.
func numberAt(place int) int64 { return numbers()[place%len(numbers())] }
func tagAt(place int) uint64   { return tags()[place%len(tags())] }

// leaf is a node of two empty trees.
func leaf(key, val int64, tag uint64) *node.Node { return node.New(nil, key, val, tag, nil) }

// chain is a tree that is deep on one side alone: each node has the last one on its left, or on its right.
func chain(deep int, left bool) *node.Node {
	var t *node.Node
	for k := range deep {
		if left {
			t = node.New(t, numberAt(k), numberAt(k+3), tagAt(k), nil)
		} else {
			t = node.New(nil, numberAt(k), numberAt(k+3), tagAt(k), t)
		}
	}
	return t
}

// twins is a tree in which each node has the same tree on both its sides, so high.
func twins(high int) *node.Node {
	var t *node.Node
	for k := range high {
		t = node.New(t, numberAt(k), numberAt(k+5), tagAt(k), t)
	}
	return t
}

// trees are trees of many shapes: the empty one, leaves of each key, value and tag, those of one side, those that share, deep ones, full ones.
func trees() []*node.Node {
	l := []*node.Node{nil}
	for k := range numbers() {
		l = append(l, leaf(numberAt(k), numberAt(k+6), tagAt(k)))
	}
	one, other := l[1], l[2]
	both := node.New(one, 3, 4, 5, other)
	return append(l,
		node.New(one, 1, 2, 3, nil), node.New(nil, 1, 2, 3, one), node.New(one, 1, 2, 3, one),
		both, node.New(both, 0, 0, 0, one), node.New(other, -1, -1, 7, both), node.New(both, 3, 4, 5, both),
		chain(2, true), chain(2, false), chain(60, true), chain(61, false), twins(2), twins(7), twins(10),
	)
}

// seeNode fails the test, unless the node tells that it was made of just these: the very same trees.
func seeNode(t *testing.T, n, l *node.Node, key, val int64, tag uint64, r *node.Node) {
	t.Helper()
	if n == nil {
		t.Fatalf("no node of %d %d %d", key, val, tag)
	}
	if n.Left() != l || n.Right() != r {
		t.Errorf("left and right of %d are %p, %p, not %p, %p", key, n.Left(), n.Right(), l, r)
	}
	if n.Key() != key || n.Val() != val || n.Tag() != tag {
		t.Errorf("a node of %d %d %d tells %d %d %d", key, val, tag, n.Key(), n.Val(), n.Tag())
	}
}

// countOf and sumOf are the size and the sum by the chapter's words: each node is gone to, as often as it stands there.
func countOf(n *node.Node) int {
	if n == nil {
		return 0
	}
	return countOf(n.Left()) + 1 + countOf(n.Right())
}

func sumOf(n *node.Node) *big.Int {
	if n == nil {
		return big.NewInt(0)
	}
	all := new(big.Int).Add(sumOf(n.Left()), sumOf(n.Right()))
	return all.Add(all, big.NewInt(n.Val()))
}

// round is a sum of any length, modulo 2^64, as an int64.
func round(all *big.Int) int64 {
	word := new(big.Int).Lsh(big.NewInt(1), 64)
	return int64(new(big.Int).Mod(all, word).Uint64())
}

// seeWhole fails the test, unless size and sum are what the nodes come to.
func seeWhole(t *testing.T, n *node.Node) {
	t.Helper()
	if got, want := n.Size(), countOf(n); got != want {
		t.Errorf("the size is %d, but there are %d", got, want)
	}
	if got, want := n.Sum(), round(sumOf(n)); got != want {
		t.Errorf("the sum is %d, but they come to %d", got, want)
	}
}

// seeCount fails the test, unless the size and the sum are these.
func seeCount(t *testing.T, n *node.Node, size int, sum int64) {
	t.Helper()
	if n.Size() != size || n.Sum() != sum {
		t.Errorf("size %d, sum %d, not %d, %d", n.Size(), n.Sum(), size, sum)
	}
}

// TestExamples (P9.1): the chapter's own.
func TestExamples(t *testing.T) {
	that := node.New(nil, 5, 7, 1, nil)
	seeNode(t, that, nil, 5, 7, 1, nil)
	seeCount(t, that, 1, 7)
	both := node.New(that, 6, -9, 2, that)
	seeNode(t, both, that, 6, -9, 2, that)
	seeCount(t, both, 3, 5)
}

// TestEmpty (P9.1): nil is the empty tree, which tells nil and 0, and of which nothing is made with another key.
func TestEmpty(t *testing.T) {
	var none *node.Node
	if none.Left() != nil || none.Right() != nil {
		t.Error("something is left or right of nothing")
	}
	if none.Key() != 0 || none.Val() != 0 || none.Tag() != 0 {
		t.Errorf("nothing tells %d %d %d", none.Key(), none.Val(), none.Tag())
	}
	seeCount(t, none, 0, 0)
	for k := range numbers() {
		for _, val := range numbers() {
			if none.With(numberAt(k), val) != nil {
				t.Errorf("With(%d, %d) of nothing is something", numberAt(k), val)
			}
		}
	}
}

// TestLeaves (P9.1): of two empty trees, each key, each value and each tag.
func TestLeaves(t *testing.T) {
	for _, key := range numbers() {
		for _, val := range numbers() {
			for _, tag := range tags() {
				n := leaf(key, val, tag)
				seeNode(t, n, nil, key, val, tag, nil)
				seeCount(t, n, 1, val)
			}
		}
	}
}

// TestOfTwo (P9.1): of any two trees, an empty one on either side, the same one on both, and such as share nodes: they stand there as they are.
func TestOfTwo(t *testing.T) {
	l := trees()
	for k, left := range l {
		for m, right := range l {
			key, val, tag := numberAt(k+m), numberAt(2*k+m), tagAt(k+2*m)
			n := node.New(left, key, val, tag, right)
			seeNode(t, n, left, key, val, tag, right)
			seeWhole(t, n)
		}
	}
}

// TestVeryOnes (P9.1): what stands left and right is what was handed in, and not what looks like it.
func TestVeryOnes(t *testing.T) {
	like := func() *node.Node { return node.New(leaf(1, 2, 3), 4, 5, 6, leaf(7, 8, 9)) }
	one, other := like(), like()
	n := node.New(one, 0, 0, 0, other)
	seeNode(t, n, one, 0, 0, 0, other)
	seeNode(t, node.New(other, 0, 0, 0, one), other, 0, 0, 0, one)
	if n.Left() == n.Right() {
		t.Error("two that look alike are one")
	}
	w := n.With(3, 3)
	seeNode(t, w, one, 3, 3, 0, other)
}

// TestEachIsAnother (P9.1): each call makes a node of its own, also of the same things.
func TestEachIsAnother(t *testing.T) {
	for _, side := range trees() {
		made := []*node.Node{node.New(side, 1, 2, 3, side), node.New(side, 1, 2, 3, side)}
		made = append(made, made[0].With(1, 2), made[1].With(1, 2))
		for k, n := range made {
			seeNode(t, n, side, 1, 2, 3, side)
			if slices.Index(made, n) != k {
				t.Errorf("node %d is one that there was", k)
			}
		}
	}
}

// TestSums (P9.1): sums run over either end, and round again.
func TestSums(t *testing.T) {
	const least, most = math.MinInt64, math.MaxInt64
	for _, x := range []struct{ left, own, right, sum int64 }{
		{0, most, 1, least}, {1, most, 0, least}, {most, 1, 0, least}, {0, least, -1, most}, {-1, least, 0, most}, {least, -1, 0, most},
		{most, most, 0, -2}, {most, 0, most, -2}, {least, least, 0, 0}, {least, 0, least, 0}, {least, least, least, least},
		{most, most, most, most - 2}, {most, least, most, most - 1}, {least, most, 0, -1}, {most, 0, least, -1},
		{-3, 5, -4, -2}, {0, 0, 0, 0}, {1 << 62, 1 << 62, 0, least}, {-1 << 62, -1 << 62, -1, most},
	} {
		n := node.New(leaf(1, x.left, 0), 2, x.own, 0, leaf(3, x.right, 0))
		seeCount(t, n, 3, x.sum)
		seeCount(t, n.With(9, 0), 3, x.left+x.right)
		seeCount(t, leaf(2, 0, 0).With(9, x.own), 1, x.own)
	}
}

// TestDeep (P9.1): trees that are deep on one side alone, far deeper than any scheme lets them be.
func TestDeep(t *testing.T) {
	const deep = 200_000
	for _, left := range []bool{true, false} {
		n := chain(deep, left)
		var sum int64
		for k := range deep {
			sum += numberAt(k + 3)
		}
		seeCount(t, n, deep, sum)
		for k := deep - 1; k >= 0; k-- {
			if n.Key() != numberAt(k) || n.Size() != k+1 || n.Sum() != sum {
				t.Fatalf("at %d: key %d, size %d, sum %d", k, n.Key(), n.Size(), n.Sum())
			}
			sum -= n.Val()
			if left {
				seeNode(t, n, n.Left(), numberAt(k), numberAt(k+3), tagAt(k), nil)
				n = n.Left()
			} else {
				seeNode(t, n, nil, numberAt(k), numberAt(k+3), tagAt(k), n.Right())
				n = n.Right()
			}
		}
		if n != nil {
			t.Error("there is something below the last one")
		}
	}
}

// TestManyTimes (P9.1): one node counts as often as it stands in a tree; nobody goes over them.
func TestManyTimes(t *testing.T) {
	var n *node.Node
	size, sum := 0, int64(0)
	for k := range 62 {
		n = node.New(n, int64(k), int64(k)-30, 0, n)
		size, sum = 2*size+1, 2*sum+int64(k)-30
		seeCount(t, n, size, sum)
	}
	if size != 1<<62-1 {
		t.Errorf("%d nodes", size)
	}
	seeCount(t, n.With(0, 0), size, sum-31)
}

// TestWith (P9.1): a node like it, of any key and value: new ones, its own, the least, the greatest; what is left and right of it, its tag and its size stay.
func TestWith(t *testing.T) {
	for _, n := range trees()[1:] {
		for k, key := range append(numbers(), n.Key()) {
			for _, val := range []int64{n.Val(), numberAt(k), math.MinInt64, 0, math.MaxInt64} {
				w := n.With(key, val)
				seeNode(t, w, n.Left(), key, val, n.Tag(), n.Right())
				seeCount(t, w, n.Size(), n.Sum()-n.Val()+val)
				seeWhole(t, w)
			}
		}
	}
}

// TestWithAgain (P9.1): of what With made as of any other node: the last key and value stay.
func TestWithAgain(t *testing.T) {
	for _, n := range trees()[1:] {
		w := n
		for k := range 3 * len(numbers()) {
			w = w.With(numberAt(k), numberAt(5*k+1))
			seeNode(t, w, n.Left(), numberAt(k), numberAt(5*k+1), n.Tag(), n.Right())
			seeWhole(t, w)
		}
		w = w.With(n.Key(), n.Val())
		seeNode(t, w, n.Left(), n.Key(), n.Val(), n.Tag(), n.Right())
		seeCount(t, w, n.Size(), n.Sum())
	}
}
