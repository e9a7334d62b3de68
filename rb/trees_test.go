package rb_test

import (
	"math"
	"slices"
	"testing"

	"joinery/api"
	"joinery/node"
	"joinery/rb"
)

// top is the greatest tag, which is odd.
const top = math.MaxUint64

// numbers are keys and values: the least and the greatest, those around 0, others of either sign.
func numbers() []int64 {
	return []int64{7, math.MinInt64, -1, math.MaxInt64, 0, -1 << 62, 1, -9, 1 << 32, 10}
}

// numberAt is one for each place, which goes round.
func numberAt(place int) int64 { return numbers()[place%len(numbers())] }

// tags are of all sizes, odd and even, the least and the greatest, and those on both sides of what an int holds.
func tags() []uint64 {
	return []uint64{0, 1, 2, 3, 4, 5, 6, 7, 98, 99, 1 << 32, 1<<63 - 2, 1<<63 - 1, 1 << 63, 1<<63 + 1, top - 3, top - 2, top - 1, top}
}

// tagged is a node of two empty trees, of any tag.
func tagged(tag uint64) *node.Node { return node.New(nil, 5, 7, tag, nil) }

// over is a node of any tag over two trees.
func over(l *node.Node, tag uint64, r *node.Node) *node.Node { return node.New(l, 0, 1, tag, r) }

// black and red are made of two trees.
func black(l, r *node.Node) *node.Node { return rb.Make(l, 3, -4, false, r) }
func red(l, r *node.Node) *node.Node   { return rb.Make(l, 3, -4, true, r) }

// full is a tree of black nodes alone, each of its own, so high.
func full(high int) *node.Node {
	if high == 0 {
		return nil
	}
	return black(full(high-1), full(high-1))
}

// crowded is a tree of as many nodes as may be of that black height, each of its own: below each black one there are two red ones.
func crowded(high int) *node.Node {
	if high == 0 {
		return nil
	}
	ember := func() *node.Node { return red(crowded(high-1), crowded(high-1)) }
	return black(ember(), ember())
}

// The sides that are the higher one in the leanest trees.
const (
	leftHigh = iota
	rightHigh
	turnsHigh
	leans
)

// onSide puts a tree on the side that is the higher one there, another one on the other side.
func onSide(isRed bool, high, side int, higher, lower *node.Node) *node.Node {
	if side == leftHigh || side == turnsHigh && high%4 < 2 {
		return rb.Make(higher, int64(high), 2, isRed, lower)
	}
	return rb.Make(lower, int64(high), 2, isRed, higher)
}

// lean is a tree of as few nodes as may be of that height: one way down it alone has red nodes, each second one, the lowest one first; beside that way stands what is told of each black height.
func lean(high, side int, beside func(high int) *node.Node) *node.Node {
	var t *node.Node
	for k := range high {
		isRed := k%2 == 0 && k < high-1
		t = onSide(isRed, k, side, t, beside(rb.High(t)))
	}
	return t
}

// leastOf is how many nodes that are.
func leastOf(high int) int {
	if high%2 == 0 {
		return 1<<(high/2+1) - 2
	}
	return 3<<(high/2) - 2
}

// twins is made of black nodes which have the same tree on both sides, so high.
func twins(high int) *node.Node {
	var t *node.Node
	for range high {
		t = black(t, t)
	}
	return t
}

// twinsOf are twins of each height up to that, each of which stands in the next one.
func twinsOf(high int) []*node.Node {
	l := []*node.Node{nil}
	for range high {
		t := l[len(l)-1]
		l = append(l, black(t, t))
	}
	return l
}

// crowdedTwins is as crowded, but one tree stands on both sides of each node.
func crowdedTwins(high int) *node.Node {
	var t *node.Node
	for range high {
		ember := red(t, t)
		t = black(ember, ember)
	}
	return t
}

// The ways that a deep tree goes.
const (
	leftward = iota
	rightward
	zigzag
	ways
)

// deepOver is a tree so many nodes deep over another one; each is well tagged.
func deepOver(t *node.Node, deep, way int, isRed func(k int) bool) *node.Node {
	for k := range deep {
		if way == leftward || way == zigzag && k%2 == 0 {
			t = rb.Make(t, int64(k), 1, isRed(k), nil)
		} else {
			t = rb.Make(nil, int64(k), 1, isRed(k), t)
		}
	}
	return t
}

// shapes are all trees of so many nodes, each well tagged, with any colours.
func shapes(count int) []*node.Node {
	if count == 0 {
		return []*node.Node{nil}
	}
	var all []*node.Node
	for left := range count {
		for _, l := range shapes(left) {
			for _, r := range shapes(count - 1 - left) {
				all = append(all, black(l, r), red(l, r))
			}
		}
	}
	return all
}

// partsOf are all parts of so many nodes, told by the colours of their ways alone.
func partsOf(count int) []*node.Node {
	if count == 0 {
		return []*node.Node{nil}
	}
	var all []*node.Node
	for left := range count {
		for _, l := range partsOf(left) {
			for _, r := range partsOf(count - 1 - left) {
				if blacksOf(l) != blacksOf(r) {
					continue
				}
				all = append(all, black(l, r))
				if !isOdd(l) && !isOdd(r) {
					all = append(all, red(l, r))
				}
			}
		}
	}
	return all
}

// isOdd tells whether there is a tree with an odd tag.
func isOdd(t *node.Node) bool { return t != nil && t.Tag()&1 == 1 }

// blacksOf is how many nodes with even tags are gone by on each way down, -1 where ways differ, or where an odd one stands right over another one.
func blacksOf(t *node.Node) int {
	if t == nil {
		return 0
	}
	l, r := blacksOf(t.Left()), blacksOf(t.Right())
	switch {
	case l < 0 || l != r:
		return -1
	case !isOdd(t):
		return l + 1
	case isOdd(t.Left()) || isOdd(t.Right()):
		return -1
	}
	return l
}

// beadsOf are a tree's nodes in the order of its beads, by the document's words: each place is gone to.
func beadsOf(t *node.Node) []*node.Node {
	if t == nil {
		return nil
	}
	l := append([]*node.Node{t}, beadsOf(t.Left())...)
	return append(l, beadsOf(t.Right())...)
}

// halfOf is a tree's black height by the chapter's words: half its tag, rounded down.
func halfOf(t *node.Node) uint64 { return t.Tag() >> 1 }

// faultOf is what is wrong with a node, by the chapter's words.
func faultOf(n *node.Node) api.Errno {
	b := halfOf(n.Left())
	isRed, isBlack := n.Tag() == b+b+1, n.Tag() == b+b+2
	switch {
	case n.Tag() == 0 || !isRed && !isBlack:
		return api.ErrTag
	case halfOf(n.Right()) != b:
		return api.ErrTree
	case isRed && (isOdd(n.Left()) || isOdd(n.Right())):
		return api.ErrTree
	}
	return api.OK
}

// heightOf is how high a tree is, by its nodes alone.
func heightOf(t *node.Node) int {
	if t == nil {
		return 0
	}
	return 1 + max(heightOf(t.Left()), heightOf(t.Right()))
}

// chance is a row of numbers that is the same in each run.
type chance uint64

// below is a number from 0 to most - 1.
func (c *chance) below(most int) int {
	*c = *c*6364136223846793005 + 1442695040888963407
	return int(uint64(*c) >> 33 % uint64(most))
}

// part is a part of that black height, of any such shape; one of so many of its nodes, where that may be, is red.
func (c *chance) part(high, oneOf int) *node.Node {
	if c.below(oneOf) == 0 {
		return red(c.blackPart(high, oneOf), c.blackPart(high, oneOf))
	}
	return c.blackPart(high, oneOf)
}

// blackPart is a part that is not red.
func (c *chance) blackPart(high, oneOf int) *node.Node {
	if high == 0 {
		return nil
	}
	return black(c.part(high-1, oneOf), c.part(high-1, oneOf))
}

// spoilt is a tree of the same shape, all of other nodes, about one of so many of which has a tag that is no matter what, or the other colour.
func (c *chance) spoilt(t *node.Node, oneOf int) *node.Node {
	if t == nil {
		return nil
	}
	l, r := c.spoilt(t.Left(), oneOf), c.spoilt(t.Right(), oneOf)
	switch {
	case c.below(oneOf) > 0:
		return rb.Make(l, t.Key(), t.Val(), isOdd(t), r)
	case c.below(2) == 0:
		return rb.Make(l, t.Key(), t.Val(), !isOdd(t), r)
	case c.below(2) == 0:
		return node.New(l, t.Key(), t.Val(), t.Tag()+uint64(c.below(5))-2, r)
	}
	return node.New(l, t.Key(), t.Val(), tags()[c.below(len(tags()))], r)
}

// grove are so many trees, the first one empty, each other one made of such as stand ahead of it, most of them well tagged. None has more nodes, each counted as often as it stands there, than the tests can go over.
func (c *chance) grove(count int) []*node.Node {
	l := []*node.Node{nil}
	for len(l) < count {
		a, b := l[c.below(len(l))], l[c.below(len(l))]
		switch {
		case a.Size()+b.Size() > 150:
			l = append(l, black(nil, nil))
		case c.below(9) == 0:
			l = append(l, over(a, tags()[c.below(len(tags()))], b))
		default:
			l = append(l, rb.Make(a, 6, 7, c.below(2) == 0, b))
		}
	}
	return l
}

// seeFault fails the test, unless Check tells that place and error, and a tree is neither a part nor may be.
func seeFault(t *testing.T, x *node.Node, at int, e api.Errno) {
	t.Helper()
	seeAll(t, x, at, e, false)
}

// seeRedPart fails the test, unless a tree is a part, but red.
func seeRedPart(t *testing.T, x *node.Node) {
	t.Helper()
	seeAll(t, x, 0, api.ErrTree, true)
}

// seeMay fails the test, unless a tree may be.
func seeMay(t *testing.T, x *node.Node) {
	t.Helper()
	seeAll(t, x, x.Size(), api.OK, true)
}

// seeAll fails the test, unless Check tells that place and error, Part that, and May what follows.
func seeAll(t *testing.T, x *node.Node, at int, e api.Errno, isPart bool) {
	t.Helper()
	if gotAt, gotE := rb.Check(x); gotAt != at || gotE != e {
		t.Errorf("Check of a tree of the size %d, the tag %d: %d, %v, not %d, %v", x.Size(), x.Tag(), gotAt, gotE, at, e)
	}
	if got := rb.Part(x); got != isPart {
		t.Errorf("Part of a tree of the size %d, the tag %d, is %t", x.Size(), x.Tag(), got)
	}
	if got := rb.May(x); got != (e == api.OK) {
		t.Errorf("May of a tree of the size %d, whose Check is %d, %v: %t", x.Size(), at, e, got)
	}
}

// seeByWords fails the test, unless Check, Part and May tell what the chapter's words come to.
func seeByWords(t *testing.T, x *node.Node) {
	t.Helper()
	l := beadsOf(x)
	at := slices.IndexFunc(l, func(n *node.Node) bool { return faultOf(n) != api.OK })
	switch {
	case at >= 0:
		seeFault(t, x, at, faultOf(l[at]))
	case isOdd(x):
		seeRedPart(t, x)
	default:
		seeAll(t, x, len(l), api.OK, true)
	}
}
