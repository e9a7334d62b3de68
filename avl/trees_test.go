package avl_test

import (
	"math"
	"slices"
	"testing"

	"joinery/api"
	"joinery/avl"
	"joinery/node"
)

// top is the greatest tag.
const top = math.MaxUint64

// numbers are keys and values: the least and the greatest, those around 0, others of either sign.
func numbers() []int64 {
	return []int64{7, math.MinInt64, -1, math.MaxInt64, 0, -1 << 62, 1, -9, 1 << 32, 10}
}

// numberAt is one for each place, which goes round.
func numberAt(place int) int64 { return numbers()[place%len(numbers())] }

// tags are of all sizes, the least and the greatest, and those on both sides of what an int holds.
func tags() []uint64 {
	return []uint64{0, 1, 2, 3, 4, 5, 99, 1 << 32, 1<<63 - 2, 1<<63 - 1, 1 << 63, 1<<63 + 1, top - 2, top - 1, top}
}

// tagged is a node of two empty trees, of any tag.
func tagged(tag uint64) *node.Node { return node.New(nil, 5, 7, tag, nil) }

// over is a node of any tag over two trees.
func over(l *node.Node, tag uint64, r *node.Node) *node.Node { return node.New(l, 0, 1, tag, r) }

// leaf is made of two empty trees.
func leaf() *node.Node { return made(nil, nil) }

// made is made of two trees.
func made(l, r *node.Node) *node.Node { return avl.Make(l, 3, -4, r) }

// full is a tree of all nodes that there may be of that height, each of its own.
func full(high int) *node.Node {
	if high == 0 {
		return nil
	}
	return made(full(high-1), full(high-1))
}

// The sides that are the higher one in the leanest trees.
const (
	leftHigh = iota
	rightHigh
	turnsHigh
	leans
)

// lean is a tree of as few nodes as may be of that height, each of its own.
func lean(high, side int) *node.Node {
	if high <= 0 {
		return nil
	}
	a, b := lean(high-1, side), lean(high-2, side)
	if side == leftHigh || side == turnsHigh && high%2 == 0 {
		return made(a, b)
	}
	return made(b, a)
}

// twins is made of nodes which have the same tree on both sides, so high.
func twins(high int) *node.Node {
	var t *node.Node
	for range high {
		t = made(t, t)
	}
	return t
}

// leanTwins is a leanest tree of that height which has one node of each height, in many places.
func leanTwins(high, side int) *node.Node {
	var lower, t *node.Node
	for k := range high {
		above := made(lower, t)
		if side == leftHigh || side == turnsHigh && k%2 == 0 {
			above = made(t, lower)
		}
		lower, t = t, above
	}
	return t
}

// The ways that a deep tree goes.
const (
	leftward = iota
	rightward
	zigzag
	ways
)

// deepOver is a tree so many nodes deep over another one; each is well tagged.
func deepOver(t *node.Node, deep, way int) *node.Node {
	for k := range deep {
		if way == leftward || way == zigzag && k%2 == 0 {
			t = made(t, nil)
		} else {
			t = made(nil, t)
		}
	}
	return t
}

// shapes are all trees that there may be of so many nodes, with well tagged nodes alone.
func shapes(count int) []*node.Node {
	if count == 0 {
		return []*node.Node{nil}
	}
	var all []*node.Node
	for left := range count {
		for _, l := range shapes(left) {
			for _, r := range shapes(count - 1 - left) {
				all = append(all, made(l, r))
			}
		}
	}
	return all
}

// smallShapes are all trees of so many nodes at most.
func smallShapes(most int) []*node.Node {
	var l []*node.Node
	for count := range most + 1 {
		l = append(l, shapes(count)...)
	}
	return l
}

// beadsOf are a tree's nodes in the order of its beads, by the document's words: each place is gone to.
func beadsOf(t *node.Node) []*node.Node {
	if t == nil {
		return nil
	}
	l := append([]*node.Node{t}, beadsOf(t.Left())...)
	return append(l, beadsOf(t.Right())...)
}

// faultOf is what is wrong with a node, by the chapter's words: neither what is one more than a tag, nor how much two tags differ, goes round.
func faultOf(n *node.Node) api.Errno {
	l, r := n.Left().Tag(), n.Right().Tag()
	if l > r {
		l, r = r, l
	}
	switch {
	case n.Tag() <= r || n.Tag()-r != 1:
		return api.ErrTag
	case r != l && r-l != 1:
		return api.ErrTree
	}
	return api.OK
}

// faultsOf are the places of all nodes of a tree that are wrong.
func faultsOf(t *node.Node) []int {
	var l []int
	for place, n := range beadsOf(t) {
		if faultOf(n) != api.OK {
			l = append(l, place)
		}
	}
	return l
}

// heightOf is how high a tree is, by its nodes alone.
func heightOf(t *node.Node) int {
	if t == nil {
		return 0
	}
	return 1 + max(heightOf(t.Left()), heightOf(t.Right()))
}

// isBalanced tells whether the heights of both sides of each node differ by 1 at most, by its nodes alone.
func isBalanced(t *node.Node) bool {
	if t == nil {
		return true
	}
	d := heightOf(t.Left()) - heightOf(t.Right())
	return -1 <= d && d <= 1 && isBalanced(t.Left()) && isBalanced(t.Right())
}

// fib is a number of Fibonacci: fib(1) and fib(2) are 1.
func fib(n int) int {
	a, b := 0, 1
	for range n {
		a, b = b, a+b
	}
	return a
}

// chance is a row of numbers that is the same in each run.
type chance uint64

// below is a number from 0 to most - 1.
func (c *chance) below(most int) int {
	*c = *c*6364136223846793005 + 1442695040888963407
	return int(uint64(*c) >> 33 % uint64(most))
}

// balanced is a tree that may be, of that height, of any such shape.
func (c *chance) balanced(high int) *node.Node {
	if high <= 0 {
		return nil
	}
	switch c.below(3) {
	case 0:
		return made(c.balanced(high-1), c.balanced(high-2))
	case 1:
		return made(c.balanced(high-2), c.balanced(high-1))
	}
	return made(c.balanced(high-1), c.balanced(high-1))
}

// spoilt is a tree of the same shape, all of other nodes, about one of so many of which has a tag that is no matter what.
func (c *chance) spoilt(t *node.Node, oneOf int) *node.Node {
	if t == nil {
		return nil
	}
	l, r := c.spoilt(t.Left(), oneOf), c.spoilt(t.Right(), oneOf)
	switch {
	case c.below(oneOf) > 0:
		return avl.Make(l, t.Key(), t.Val(), r)
	case c.below(2) == 0:
		return node.New(l, t.Key(), t.Val(), t.Tag()+uint64(c.below(3))-1, r)
	}
	return node.New(l, t.Key(), t.Val(), tags()[c.below(len(tags()))], r)
}

// grove are so many trees, the first one empty, each other one made of such as stand ahead of it, most of them well tagged. None has more nodes, each counted as often as it stands there, than the tests can go over.
func (c *chance) grove(count int) []*node.Node {
	l := []*node.Node{nil}
	for len(l) < count {
		a, b := l[c.below(len(l))], l[c.below(len(l))]
		switch {
		case a.Size()+b.Size() > 150:
			l = append(l, leaf())
		case c.below(9) == 0:
			l = append(l, over(a, tags()[c.below(len(tags()))], b))
		default:
			l = append(l, made(a, b))
		}
	}
	return l
}

// seeCheck fails the test, unless Check tells that place and error, and May what follows.
func seeCheck(t *testing.T, x *node.Node, at int, e api.Errno) {
	t.Helper()
	if gotAt, gotE := avl.Check(x); gotAt != at || gotE != e {
		t.Errorf("Check of a tree of the size %d, the tag %d: %d, %v, not %d, %v", x.Size(), x.Tag(), gotAt, gotE, at, e)
	}
	if got := avl.May(x); got != (e == api.OK) {
		t.Errorf("May of a tree of the size %d, whose Check is %d, %v: %t", x.Size(), at, e, got)
	}
}

// seeMay fails the test, unless a tree may be.
func seeMay(t *testing.T, x *node.Node) {
	t.Helper()
	seeCheck(t, x, x.Size(), api.OK)
}

// seeByWords fails the test, unless Check and May tell what the chapter's words come to.
func seeByWords(t *testing.T, x *node.Node) {
	t.Helper()
	l := beadsOf(x)
	at := slices.IndexFunc(l, func(n *node.Node) bool { return faultOf(n) != api.OK })
	if at < 0 {
		seeCheck(t, x, len(l), api.OK)
		return
	}
	seeCheck(t, x, at, faultOf(l[at]))
}
