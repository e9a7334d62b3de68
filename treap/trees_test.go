package treap_test

import (
	"math"
	"slices"
	"testing"

	"joinery/api"
	"joinery/mix"
	"joinery/node"
	"joinery/shape"
	"joinery/treap"
)

// top is the greatest tag.
const top = math.MaxUint64

// tags are of all sizes, as they rise: the least and the greatest, and those on both sides of what an int holds.
func tags() []uint64 {
	return []uint64{0, 1, 2, 99, 1 << 32, 1<<63 - 1, 1 << 63, 1<<63 + 1, top - 1, top}
}

// keys are of all sizes, as they rise: the least and the greatest, and those around 0.
func keys() []int64 {
	return []int64{math.MinInt64, math.MinInt64 + 1, -1 << 32, -9, -1, 0, 1, 7, 1 << 32, math.MaxInt64 - 1, math.MaxInt64}
}

// item is one of a key, a tag, and a value that tells of both.
func item(key int64, tag uint64) api.Item {
	return api.Item{Key: key, Val: 3*key + int64(tag), Tag: tag}
}

// someItems are those of each of some keys, with each of some tags.
func someItems(someKeys []int64, someTags []uint64) []api.Item {
	var l []api.Item
	for _, key := range someKeys {
		for _, tag := range someTags {
			l = append(l, item(key, tag))
		}
	}
	return l
}

// over is a node of an item over two trees.
func over(l *node.Node, x api.Item, r *node.Node) *node.Node {
	return node.New(l, x.Key, x.Val, x.Tag, r)
}

// tagged is a node of the key 5, of any tag, over two trees.
func tagged(l *node.Node, tag uint64, r *node.Node) *node.Node { return over(l, item(5, tag), r) }

// flat is a tree so high of all nodes that there may be, each of its own, which have the same item.
func flat(high int, x api.Item) *node.Node {
	if high == 0 {
		return nil
	}
	return over(flat(high-1, x), x, flat(high-1, x))
}

// twins is made of nodes which have the same tree on both sides, so high; their tags rise upwards.
func twins(high int) *node.Node {
	var t *node.Node
	for k := range high {
		t = tagged(t, uint64(k), t)
	}
	return t
}

// The ways that a deep tree goes.
const (
	leftward = iota
	rightward
	zigzag
	ways
)

// deepOver is a tree so many nodes deep over another one; each node's item, the lowest one's first, is told.
func deepOver(t *node.Node, deep, way int, itemAt func(k int) api.Item) *node.Node {
	for k := range deep {
		if way == leftward || way == zigzag && k%2 == 0 {
			t = over(t, itemAt(k), nil)
		} else {
			t = over(nil, itemAt(k), t)
		}
	}
	return t
}

// shapes are all trees of so many nodes, with any of these items on each.
func shapes(count int, some []api.Item) []*node.Node {
	if count == 0 {
		return []*node.Node{nil}
	}
	var all []*node.Node
	for left := range count {
		for _, l := range shapes(left, some) {
			for _, r := range shapes(count-1-left, some) {
				for _, x := range some {
					all = append(all, over(l, x, r))
				}
			}
		}
	}
	return all
}

// treesOf are all trees of any shape whose items, from left to right, are these.
func treesOf(l []api.Item) []*node.Node {
	if len(l) == 0 {
		return []*node.Node{nil}
	}
	var all []*node.Node
	for k, x := range l {
		for _, left := range treesOf(l[:k]) {
			for _, right := range treesOf(l[k+1:]) {
				all = append(all, over(left, x, right))
			}
		}
	}
	return all
}

// rows calls for each row of so many of these items.
func rows(count int, some []api.Item, call func(l []api.Item)) {
	var fill func(l []api.Item)
	fill = func(l []api.Item) {
		if len(l) == count {
			call(l)
			return
		}
		for _, x := range some {
			fill(append(slices.Clip(l), x))
		}
	}
	fill(nil)
}

// isAbove tells whether one item stands above another one, by the chapter's words.
func isAbove(a, b api.Item) bool {
	return a.Tag > b.Tag || a.Tag == b.Tag && a.Key > b.Key
}

// itemOf is a node as an item.
func itemOf(n *node.Node) api.Item { return api.Item{Key: n.Key(), Val: n.Val(), Tag: n.Tag()} }

// areUnlike tells whether no two items have the same tag and key.
func areUnlike(l []api.Item) bool {
	been := map[api.Item]bool{}
	for _, x := range l {
		x.Val = 0
		if been[x] {
			return false
		}
		been[x] = true
	}
	return true
}

// treeByWords is the tree of items, by the chapter's words.
func treeByWords(l []api.Item) *node.Node {
	root := slices.IndexFunc(l, func(x api.Item) bool {
		return !slices.ContainsFunc(l, func(y api.Item) bool { return isAbove(y, x) })
	})
	if root < 0 {
		return nil
	}
	return over(treeByWords(l[:root]), l[root], treeByWords(l[root+1:]))
}

// itemsByWords are a tree's nodes as items, from left to right: each place is gone to.
func itemsByWords(t *node.Node) []api.Item {
	if t == nil {
		return nil
	}
	l := append(itemsByWords(t.Left()), itemOf(t))
	return append(l, itemsByWords(t.Right())...)
}

// beadsOf are a tree's nodes in the order of its beads, by the document's words: each place is gone to.
func beadsOf(t *node.Node) []*node.Node {
	if t == nil {
		return nil
	}
	l := append([]*node.Node{t}, beadsOf(t.Left())...)
	return append(l, beadsOf(t.Right())...)
}

// isWrong tells whether the root of a side of a node stands above it, by the chapter's words.
func isWrong(n *node.Node) bool {
	return slices.ContainsFunc([]*node.Node{n.Left(), n.Right()}, func(side *node.Node) bool {
		return side != nil && isAbove(itemOf(side), itemOf(n))
	})
}

// wrongIn are the places of all nodes of a tree that are wrong.
func wrongIn(t *node.Node) []int {
	var l []int
	for place, n := range beadsOf(t) {
		if isWrong(n) {
			l = append(l, place)
		}
	}
	return l
}

// changed is a tree like it, all of other nodes, with other items: told by the place among the beads, and the item there.
func changed(t *node.Node, other func(place int, x api.Item) api.Item) *node.Node {
	place := -1
	var goTo func(n *node.Node) *node.Node
	goTo = func(n *node.Node) *node.Node {
		if n == nil {
			return nil
		}
		place++
		x := other(place, itemOf(n))
		l := goTo(n.Left())
		return over(l, x, goTo(n.Right()))
	}
	return goTo(t)
}

// mixedLike is a tree like it, but each node's tag is its key, mixed; a key tells of the place.
func mixedLike(t *node.Node) *node.Node {
	return changed(t, func(place int, _ api.Item) api.Item {
		key := keys()[place%len(keys())] + int64(place/len(keys()))
		return item(key, mix.Of(key))
	})
}

// chance is a row of numbers that is the same in each run.
type chance uint64

// below is a number from 0 to most - 1.
func (c *chance) below(most int) int {
	*c = *c*6364136223846793005 + 1442695040888963407
	return int(uint64(*c) >> 33 % uint64(most))
}

// items are so many; of each kind of tags and keys there are so many at most.
func (c *chance) items(count, kinds int) []api.Item {
	l := make([]api.Item, count)
	for k := range l {
		l[k] = api.Item{Key: int64(c.below(kinds)) - int64(kinds/2), Val: int64(c.below(1000)), Tag: uint64(c.below(kinds))}
	}
	return l
}

// grove are so many trees, the first one empty, each other one made of such as stand ahead of it, few of which are wrong by their roots. None has more nodes, each counted as often as it stands there, than the tests can go over.
func (c *chance) grove(count int) []*node.Node {
	l := []*node.Node{nil}
	for len(l) < count {
		a, b := l[c.below(len(l))], l[c.below(len(l))]
		switch tag := max(a.Tag(), b.Tag()); {
		case a.Size()+b.Size() > 150:
			l = append(l, tagged(nil, uint64(c.below(9)), nil))
		case c.below(12) == 0:
			l = append(l, tagged(a, uint64(c.below(9)), b))
		default:
			l = append(l, tagged(a, tag+uint64(c.below(2)), b))
		}
	}
	return l
}

// lineOf is a tree's line, unless that would be too long to be read.
func lineOf(t *node.Node) string {
	if t.Size() > 40 {
		return "a great tree"
	}
	return shape.Line(t)
}

// seeCheck fails the test, unless Check tells that place and error, and May what follows.
func seeCheck(t *testing.T, x *node.Node, at int, e api.Errno) {
	t.Helper()
	if gotAt, gotE := treap.Check(x); gotAt != at || gotE != e {
		t.Errorf("Check of %s, of the size %d: %d, %v, not %d, %v", lineOf(x), x.Size(), gotAt, gotE, at, e)
	}
	if got := treap.May(x); got != (e == api.OK) {
		t.Errorf("May of %s, whose Check is %d, %v: %t", lineOf(x), at, e, got)
	}
}

// seeMay fails the test, unless a tree may be.
func seeMay(t *testing.T, x *node.Node) {
	t.Helper()
	seeCheck(t, x, x.Size(), api.OK)
}

// seeByWords fails the test, unless Check and May tell what the chapter's words come to.
func seeByWords(t *testing.T, x *node.Node) {
	t.Helper()
	if wrong := wrongIn(x); len(wrong) > 0 {
		seeCheck(t, x, wrong[0], api.ErrTree)
		return
	}
	seeCheck(t, x, len(beadsOf(x)), api.OK)
}

// seeSame fails the test, unless both trees have the same beads.
func seeSame(t *testing.T, got, want *node.Node) {
	t.Helper()
	if !shape.Same(got, want) {
		t.Errorf("%s, not %s", lineOf(got), lineOf(want))
	}
}

// seeItems fails the test, unless Items of a tree are these.
func seeItems(t *testing.T, x *node.Node, want []api.Item) {
	t.Helper()
	if got := treap.Items(x); !slices.Equal(got, want) {
		t.Errorf("Items of %s: %v, not %v", lineOf(x), got, want)
	}
}
