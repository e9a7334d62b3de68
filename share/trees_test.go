package share_test

import (
	"math"
	"slices"
	"testing"

	"joinery/node"
	"joinery/share"
)

// leaf is a node of two empty trees.
func leaf(key int64) *node.Node { return node.New(nil, key, 0, 0, nil) }

// over is a node of a key over two trees.
func over(l *node.Node, key int64, r *node.Node) *node.Node { return node.New(l, key, 0, 0, r) }

// again is a tree that looks the same, and has no node of the first one.
func again(t *node.Node) *node.Node {
	if t == nil {
		return nil
	}
	return node.New(again(t.Left()), t.Key(), t.Val(), t.Tag(), again(t.Right()))
}

// twinsOver is a tree in which each node has the same tree on both its sides, so many nodes above that one.
func twinsOver(t *node.Node, high int) *node.Node {
	for k := range high {
		t = node.New(t, int64(k), math.MaxInt64-int64(k), uint64(k), t)
	}
	return t
}

// full is a tree of all nodes that there may be of that height, each of its own, though all look alike but for their sizes.
func full(high int) *node.Node {
	if high == 0 {
		return nil
	}
	return over(full(high-1), 7, full(high-1))
}

// The ways that a deep tree goes.
const (
	leftward = iota
	rightward
	zigzag
	ways
)

// deepOver is a tree so many nodes deep over another one.
func deepOver(t *node.Node, deep, way int) *node.Node {
	for k := range deep {
		if way == leftward || way == zigzag && k%2 == 0 {
			t = over(t, int64(k), nil)
		} else {
			t = over(nil, int64(k), t)
		}
	}
	return t
}

// chance is a row of numbers that is the same in each run.
type chance uint64

// below is a number from 0 to most - 1.
func (c *chance) below(most int) int {
	*c = *c*6364136223846793005 + 1442695040888963407
	return int(uint64(*c) >> 33 % uint64(most))
}

// grove are so many trees, the first one empty, each other one made of such as stand ahead of it: New and With by turns. None has more nodes, each counted as often as it stands there, than the tests can go over.
func (c *chance) grove(count int) []*node.Node {
	l := []*node.Node{nil}
	for len(l) < count {
		key := int64(c.below(3))
		a, b := l[c.below(len(l))], l[c.below(len(l))]
		switch {
		case a != nil && c.below(6) == 0:
			l = append(l, a.With(key, key))
		case a.Size()+b.Size() < 150:
			l = append(l, over(a, key, b))
		default:
			l = append(l, over(nil, key, nil))
		}
	}
	return l
}

// some are so many trees of a grove, which may be the same one twice.
func (c *chance) some(l []*node.Node, count int) []*node.Node {
	var s []*node.Node
	for range count {
		s = append(s, l[c.below(len(l))])
	}
	return s
}

// spot is a place in a tree: the node that stands there, and all that stand above it.
type spot struct {
	at    *node.Node
	above []*node.Node
}

// spotsOf are all places of a tree, from left to right.
func spotsOf(t *node.Node, above []*node.Node) []spot {
	if t == nil {
		return nil
	}
	below := append(slices.Clone(above), t)
	l := append(spotsOf(t.Left(), below), spot{t, above})
	return append(l, spotsOf(t.Right(), below)...)
}

// nodesOf are the nodes of trees, by the chapter's words: each place is gone to.
func nodesOf(trees ...*node.Node) map[*node.Node]bool {
	all := map[*node.Node]bool{}
	for _, t := range trees {
		for _, s := range spotsOf(t, nil) {
			all[s.at] = true
		}
	}
	return all
}

// newOf is how many nodes of a tree are new, by the chapter's words.
func newOf(t *node.Node, old ...*node.Node) int {
	isOld, count := nodesOf(old...), 0
	for n := range nodesOf(t) {
		if !isOld[n] {
			count++
		}
	}
	return count
}

// topsOf are a tree's tops, by the chapter's words: of each place all that stands above it is asked.
func topsOf(t *node.Node, old ...*node.Node) []*node.Node {
	isOld := nodesOf(old...)
	var l []*node.Node
	for _, s := range spotsOf(t, nil) {
		underOld := slices.ContainsFunc(s.above, func(n *node.Node) bool { return isOld[n] })
		if isOld[s.at] && !underOld && !slices.Contains(l, s.at) {
			l = append(l, s.at)
		}
	}
	return l
}

// keys are the keys of nodes, to be told.
func keys(l []*node.Node) []int64 {
	var k []int64
	for _, n := range l {
		k = append(k, n.Key())
	}
	return k
}

// seeNodes fails the test, unless a tree has so many nodes.
func seeNodes(t *testing.T, x *node.Node, want int) {
	t.Helper()
	if got := share.Nodes(x); got != want {
		t.Errorf("a tree of the size %d has %d nodes, not %d", x.Size(), got, want)
	}
}

// seeNew fails the test, unless so many nodes of a tree are new.
func seeNew(t *testing.T, want int, x *node.Node, old ...*node.Node) {
	t.Helper()
	if got := share.New(x, old...); got != want {
		t.Errorf("of a tree of the size %d, with %d old ones, %d nodes are new, not %d", x.Size(), len(old), got, want)
	}
}

// seeIn fails the test, unless it is told whether n is one of a tree's nodes.
func seeIn(t *testing.T, x, n *node.Node, want bool) {
	t.Helper()
	if got := share.In(x, n); got != want {
		t.Errorf("In of a tree of the size %d, and a node of the key %d, is %t", x.Size(), n.Key(), got)
	}
}

// seeSame fails the test, unless two trees have so many nodes both, whichever is named first.
func seeSame(t *testing.T, a, b *node.Node, want int) {
	t.Helper()
	if got, back := share.Same(a, b), share.Same(b, a); got != want || back != want {
		t.Errorf("trees of the sizes %d and %d have %d nodes both, and the other way round %d, not %d", a.Size(), b.Size(), got, back, want)
	}
}

// seeTops fails the test, unless a tree's tops are these very nodes, in this order.
func seeTops(t *testing.T, want []*node.Node, x *node.Node, old ...*node.Node) {
	t.Helper()
	if got := share.Tops(x, old...); !slices.Equal(got, want) {
		t.Errorf("of a tree of the size %d, with %d old ones, the tops have the keys %v, not %v", x.Size(), len(old), keys(got), keys(want))
	}
}

// list is a list of nodes.
func list(l ...*node.Node) []*node.Node { return l }
