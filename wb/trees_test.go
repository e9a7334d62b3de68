package wb_test

import (
	"math"
	"math/big"
	"slices"
	"testing"

	"joinery/api"
	"joinery/node"
	"joinery/wb"
)

// top is the greatest tag.
const top = math.MaxUint64

// numbers are keys and values: the least and the greatest, those around 0, others of either sign.
func numbers() []int64 {
	return []int64{7, math.MinInt64, -1, math.MaxInt64, 0, -1 << 62, 1, -9, 1 << 32, 10}
}

// numberAt is one for each place, which goes round.
func numberAt(place int) int64 { return numbers()[place%len(numbers())] }

// tags are of all sizes, the greatest among them, but 0.
func tags() []uint64 {
	return []uint64{1, 2, 3, 5, 99, 256, 1 << 32, 1<<63 - 1, 1 << 63, 1<<63 + 1, top - 1, top}
}

// tagged is a node of two empty trees, of any tag.
func tagged(tag uint64) *node.Node { return node.New(nil, 5, 7, tag, nil) }

// over is a node of any tag over two trees.
func over(l *node.Node, tag uint64, r *node.Node) *node.Node { return node.New(l, 0, 1, tag, r) }

// made is made of two trees.
func made(l, r *node.Node) *node.Node { return wb.Make(l, 3, -4, r) }

// leaf is made of two empty trees.
func leaf() *node.Node { return made(nil, nil) }

// halved is a tree of that weight, each node of its own, whose sides weigh as much as each other, or the right one 1 more.
func halved(weight int) *node.Node {
	if weight == 1 {
		return nil
	}
	return made(halved(weight/2), halved(weight-weight/2))
}

// heavies make trees of any weight, as halved does, but with few nodes, which stand in many places.
type heavies map[int]*node.Node

// of is the one of that weight.
func (h heavies) of(weight int) *node.Node {
	if weight == 1 {
		return nil
	}
	if h[weight] == nil {
		h[weight] = made(h.of(weight/2), h.of(weight-weight/2))
	}
	return h[weight]
}

// heavy is one tree of that weight, of few nodes.
func heavy(weight int) *node.Node { return heavies{}.of(weight) }

// twins is made of nodes which have the same tree on both sides, so high.
func twins(high int) *node.Node {
	var t *node.Node
	for range high {
		t = made(t, t)
	}
	return t
}

// The sides that are the heavier one in the leanest trees.
const (
	leftHeavy = iota
	rightHeavy
	turnsHeavy
	leans
)

// leastOf is the number of that height in the row of P18.3.
func leastOf(high int) int {
	weight := 1
	for range high {
		weight = (100*weight + 70) / 71
	}
	return weight
}

// lean is a tree of as little weight as may be of that height. What stands beside its long way is made by beside.
func lean(high, side int, beside func(weight int) *node.Node) *node.Node {
	var t *node.Node
	for k := range high {
		other := beside(leastOf(k+1) - leastOf(k))
		if side == leftHeavy || side == turnsHeavy && k%2 == 0 {
			t = made(t, other)
		} else {
			t = made(other, t)
		}
	}
	return t
}

// The ways that a deep tree goes.
const (
	leftward = iota
	rightward
	zigzag
	ways
)

// deepOver is a tree so many nodes deep over another one.
func deepOver(t *node.Node, deep, way int) *node.Node {
	for k := range deep {
		if way == leftward || way == zigzag && k%2 == 0 {
			t = made(t, nil)
		} else {
			t = made(nil, t)
		}
	}
	return t
}

// shapes are all trees of so many nodes, with any of these tags on each.
func shapes(count int, some ...uint64) []*node.Node {
	if count == 0 {
		return []*node.Node{nil}
	}
	var all []*node.Node
	for left := range count {
		for _, l := range shapes(left, some...) {
			for _, r := range shapes(count-1-left, some...) {
				for _, tag := range some {
					all = append(all, over(l, tag, r))
				}
			}
		}
	}
	return all
}

// balancedOf are all trees of so many nodes that may be, told by how many nodes their sides have alone.
func balancedOf(count int) []*node.Node {
	if count == 0 {
		return []*node.Node{nil}
	}
	var all []*node.Node
	for left := range count {
		if !likeByWords(left+1, count-left) {
			continue
		}
		for _, l := range balancedOf(left) {
			for _, r := range balancedOf(count - 1 - left) {
				all = append(all, made(l, r))
			}
		}
	}
	return all
}

// likeByWords tells whether two weights are alike, by the chapter's words, in numbers that never go round.
func likeByWords(a, b int) bool {
	times := func(n int64, x *big.Int) *big.Int { return new(big.Int).Mul(big.NewInt(n), x) }
	one, other := big.NewInt(int64(a)), big.NewInt(int64(b))
	both := times(29, new(big.Int).Add(one, other))
	least, most := big.NewInt(1), new(big.Int).Exp(big.NewInt(2), big.NewInt(40), nil)
	for _, x := range []*big.Int{one, other} {
		if x.Cmp(least) < 0 || x.Cmp(most) > 0 || both.Cmp(times(100, x)) > 0 {
			return false
		}
	}
	return true
}

// beadsOf are a tree's nodes in the order of its beads, by the document's words: each place is gone to.
func beadsOf(t *node.Node) []*node.Node {
	if t == nil {
		return nil
	}
	l := append([]*node.Node{t}, beadsOf(t.Left())...)
	return append(l, beadsOf(t.Right())...)
}

// countOf is how many nodes a tree has: they are counted.
func countOf(t *node.Node) int {
	if t == nil {
		return 0
	}
	return countOf(t.Left()) + 1 + countOf(t.Right())
}

// heightOf is how high a tree is, by its nodes alone; each is gone to once.
func heightOf(t *node.Node) int {
	high := map[*node.Node]int{nil: 0}
	var goTo func(n *node.Node) int
	goTo = func(n *node.Node) int {
		if _, is := high[n]; !is {
			high[n] = 1 + max(goTo(n.Left()), goTo(n.Right()))
		}
		return high[n]
	}
	return goTo(t)
}

// faultOf is what is wrong with a node, by the chapter's words.
func faultOf(n *node.Node) api.Errno {
	switch {
	case n.Tag() != 0:
		return api.ErrTag
	case !likeByWords(countOf(n.Left())+1, countOf(n.Right())+1):
		return api.ErrTree
	}
	return api.OK
}

// faultsOf are the places of all nodes of a tree that are wrong.
func faultsOf(t *node.Node) []int {
	var l []int
	for place, n := range beadsOf(t) {
		if faultOf(n) != api.OK {
			l = append(l, place)
		}
	}
	return l
}

// chance is a row of numbers that is the same in each run.
type chance uint64

// below is a number from 0 to most - 1.
func (c *chance) below(most int) int {
	*c = *c*6364136223846793005 + 1442695040888963407
	return int(uint64(*c) >> 33 % uint64(most))
}

// balanced is a tree that may be, of that weight, of any such shape.
func (c *chance) balanced(weight int) *node.Node {
	if weight == 1 {
		return nil
	}
	// No side is lighter than 29 of 100 parts.
	least := (29*weight + 99) / 100
	left := least + c.below(weight-2*least+1)
	return made(c.balanced(left), c.balanced(weight-left))
}

// spoilt is a tree like it, all of other nodes, about one of so many of which has another tag, or other sides.
func (c *chance) spoilt(t *node.Node, oneOf int) *node.Node {
	if t == nil {
		return nil
	}
	l, r := c.spoilt(t.Left(), oneOf), c.spoilt(t.Right(), oneOf)
	switch {
	case c.below(oneOf) > 0:
		return wb.Make(l, t.Key(), t.Val(), r)
	case c.below(3) > 0:
		return node.New(l, t.Key(), t.Val(), tags()[c.below(len(tags()))], r)
	}
	return made(l, made(r, c.balanced(1+c.below(6))))
}

// grove are so many trees, the first one empty, each other one made of such as stand ahead of it, few of which have other tags. None has more nodes, each counted as often as it stands there, than the tests can go over.
func (c *chance) grove(count int) []*node.Node {
	l := []*node.Node{nil}
	for len(l) < count {
		a, b := l[c.below(len(l))], l[c.below(len(l))]
		// Of two that are alike more come to be: else few trees would be right far down.
		if !likeByWords(a.Size()+1, b.Size()+1) && c.below(3) > 0 {
			b = a
		}
		switch {
		case a.Size()+b.Size() > 150:
			l = append(l, leaf())
		case c.below(12) == 0:
			l = append(l, over(a, tags()[c.below(len(tags()))], b))
		default:
			l = append(l, made(a, b))
		}
	}
	return l
}

// seeCheck fails the test, unless Check tells that place and error, and May what follows.
func seeCheck(t *testing.T, x *node.Node, at int, e api.Errno) {
	t.Helper()
	if gotAt, gotE := wb.Check(x); gotAt != at || gotE != e {
		t.Errorf("Check of a tree of the size %d, the tag %d: %d, %v, not %d, %v", x.Size(), x.Tag(), gotAt, gotE, at, e)
	}
	if got := wb.May(x); got != (e == api.OK) {
		t.Errorf("May of a tree of the size %d, whose Check is %d, %v: %t", x.Size(), at, e, got)
	}
}

// seeMay fails the test, unless a tree may be.
func seeMay(t *testing.T, x *node.Node) {
	t.Helper()
	seeCheck(t, x, x.Size(), api.OK)
}

// seeByWords fails the test, unless Check and May tell what the chapter's words come to.
func seeByWords(t *testing.T, x *node.Node) {
	t.Helper()
	l := beadsOf(x)
	at := slices.IndexFunc(l, func(n *node.Node) bool { return faultOf(n) != api.OK })
	if at < 0 {
		seeCheck(t, x, len(l), api.OK)
		return
	}
	seeCheck(t, x, at, faultOf(l[at]))
}
