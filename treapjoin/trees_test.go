package treapjoin_test

import (
	"math"
	"math/bits"
	"slices"
	"testing"

	"joinery/api"
	"joinery/beads"
	"joinery/node"
	"joinery/shape"
	"joinery/share"
	"joinery/sound"
	"joinery/treap"
	"joinery/treapjoin"
)

// top is the greatest tag.
const top = math.MaxUint64

// tags are of all sizes, as they rise: the least and the greatest, and those on both sides of what an int holds.
func tags() []uint64 {
	return []uint64{0, 1, 2, 99, 1 << 32, 1<<63 - 1, 1 << 63, 1<<63 + 1, top - 1, top}
}

// keys are of all sizes, as they rise: the least and the greatest, and those around 0.
func keys() []int64 {
	return []int64{math.MinInt64, math.MinInt64 + 1, -1 << 32, -9, -1, 0, 1, 7, 1 << 32, math.MaxInt64 - 1, math.MaxInt64}
}

// item is one of a key, a tag, and a value that tells of both.
func item(key int64, tag uint64) api.Item {
	return api.Item{Key: key, Val: 3*key + int64(tag), Tag: tag}
}

// someItems are those of each of some keys, with each of some tags, from the one that all others stand above.
func someItems(someKeys []int64, someTags []uint64) []api.Item {
	var l []api.Item
	for _, tag := range someTags {
		for _, key := range someKeys {
			l = append(l, item(key, tag))
		}
	}
	return l
}

// fewItems are of small tags and keys.
func fewItems() []api.Item { return someItems([]int64{-1, 0}, []uint64{0, 1}) }

// over is a node of an item over two trees.
func over(l *node.Node, x api.Item, r *node.Node) *node.Node {
	return node.New(l, x.Key, x.Val, x.Tag, r)
}

// leaf is a node of an item over two empty trees.
func leaf(x api.Item) *node.Node { return over(nil, x, nil) }

// flat is a tree so high of all nodes that there may be, each of its own, which have the same item.
func flat(high int, x api.Item) *node.Node {
	if high == 0 {
		return nil
	}
	return over(flat(high-1, x), x, flat(high-1, x))
}

// twins is made of nodes which have the same tree on both sides, so high; their tags rise upwards, by so much.
func twins(high int, by uint64) *node.Node {
	var t *node.Node
	for k := range high {
		t = over(t, item(int64(k), uint64(k)*by), t)
	}
	return t
}

// The ways that a deep tree goes.
const (
	leftward = iota
	rightward
	zigzag
	ways
)

// deepOver is a tree so many nodes deep over another one; each node's item, the lowest one's first, is told.
func deepOver(t *node.Node, deep, way int, itemAt func(k int) api.Item) *node.Node {
	for k := range deep {
		if way == leftward || way == zigzag && k%2 == 0 {
			t = over(t, itemAt(k), nil)
		} else {
			t = over(nil, itemAt(k), t)
		}
	}
	return t
}

// heapsOf are all trees of each number of nodes up to one that may be, with any of these items on each.
func heapsOf(most int, some []api.Item) [][]*node.Node {
	bySize := [][]*node.Node{{nil}}
	for count := 1; count <= most; count++ {
		var all []*node.Node
		for left := range count {
			for _, l := range bySize[left] {
				for _, r := range bySize[count-1-left] {
					for _, x := range some {
						if t := over(l, x, r); isRight(t) {
							all = append(all, t)
						}
					}
				}
			}
		}
		bySize = append(bySize, all)
	}
	return bySize
}

// rows calls for each row of so many of these items.
func rows(count int, some []api.Item, call func(l []api.Item)) {
	var fill func(l []api.Item)
	fill = func(l []api.Item) {
		if len(l) == count {
			call(l)
			return
		}
		for _, x := range some {
			fill(append(slices.Clip(l), x))
		}
	}
	fill(nil)
}

// isAbove tells whether one item stands above another one, by the words of layer 20.
func isAbove(a, b api.Item) bool {
	return a.Tag > b.Tag || a.Tag == b.Tag && a.Key > b.Key
}

// itemOf is a node as an item.
func itemOf(n *node.Node) api.Item { return api.Item{Key: n.Key(), Val: n.Val(), Tag: n.Tag()} }

// isRight tells whether the root of no side of a node stands above it, by the words of layer 20.
func isRight(n *node.Node) bool {
	return !slices.ContainsFunc([]*node.Node{n.Left(), n.Right()}, func(side *node.Node) bool {
		return side != nil && isAbove(itemOf(side), itemOf(n))
	})
}

// areUnlike tells whether no two items have the same tag and key.
func areUnlike(l []api.Item) bool {
	been := map[api.Item]bool{}
	for _, x := range l {
		x.Val = 0
		if been[x] {
			return false
		}
		been[x] = true
	}
	return true
}

// treeByWords is the tree of items, by the words of layer 20.
func treeByWords(l []api.Item) *node.Node {
	root := slices.IndexFunc(l, func(x api.Item) bool {
		return !slices.ContainsFunc(l, func(y api.Item) bool { return isAbove(y, x) })
	})
	if root < 0 {
		return nil
	}
	return over(treeByWords(l[:root]), l[root], treeByWords(l[root+1:]))
}

// allOf are the items of a tree, one more, and those of another tree.
func allOf(l *node.Node, x api.Item, r *node.Node) []api.Item {
	return slices.Concat(treap.Items(l), []api.Item{x}, treap.Items(r))
}

// parted is a row of items, parted at a place: two trees, and the item between them.
func parted(l []api.Item, at int) (left *node.Node, x api.Item, right *node.Node) {
	return treap.Of(l[:at]...), l[at], treap.Of(l[at+1:]...)
}

// mostOf is how many nodes of a join may be new, by the chapter's words.
func mostOf(l, r *node.Node) int {
	count := 1
	for ; l != nil; l = l.Right() {
		count++
	}
	for ; r != nil; r = r.Left() {
		count++
	}
	return count
}

// digest tells rows of items apart, as good as always: it is found from those of the row's parts, so that rows may be longer than could be gone over. Its numbers are those modulo a prime.
type digest struct{ sum, power uint64 }

// prime is that.
const prime = 1<<61 - 1

// timesOf is a product of two such numbers.
func timesOf(a, b uint64) uint64 {
	high, low := bits.Mul64(a%prime, b)
	return bits.Rem64(high, low, prime)
}

// digestOf is the one of an item alone.
func digestOf(x api.Item) digest {
	sum := timesOf(uint64(x.Key), 0x123456789abcdef) + timesOf(uint64(x.Val), 0xfedcba987654321) + timesOf(x.Tag, 0xabad1deadeadbea) + 1
	return digest{sum % prime, 0x1badcafe0ddba11}
}

// with is the digest of both rows, one behind the other.
func (d digest) with(other digest) digest {
	return digest{(timesOf(d.sum, other.power) + other.sum) % prime, timesOf(d.power, other.power)}
}

// digestIn is the digest of a tree's items, from left to right; each node is gone to once.
func digestIn(t *node.Node) digest {
	been := map[*node.Node]digest{nil: {0, 1}}
	var goTo func(n *node.Node) digest
	goTo = func(n *node.Node) digest {
		if _, is := been[n]; !is {
			been[n] = goTo(n.Left()).with(digestOf(itemOf(n))).with(goTo(n.Right()))
		}
		return been[n]
	}
	return goTo(t)
}

// chance is a row of numbers that is the same in each run.
type chance uint64

// below is a number from 0 to most - 1.
func (c *chance) below(most int) int {
	*c = *c*6364136223846793005 + 1442695040888963407
	return int(uint64(*c) >> 33 % uint64(most))
}

// items are so many; of each kind of tags and keys there are so many at most.
func (c *chance) items(count, kinds int) []api.Item {
	l := make([]api.Item, count)
	for k := range l {
		l[k] = api.Item{Key: int64(c.below(kinds)) - int64(kinds/2), Val: int64(c.below(1000)), Tag: uint64(c.below(kinds))}
	}
	return l
}

// unlike are so many items, no two of which have the same tag and key; only few of their tags are the same.
func (c *chance) unlike(count int) []api.Item {
	l := make([]api.Item, count)
	for k := range l {
		l[k] = api.Item{Key: int64(k), Val: int64(c.below(1000)), Tag: uint64(c.below(1 + 3*count))}
	}
	// So that keys do not rise from left to right.
	for k := range l {
		other := c.below(count)
		l[k], l[other] = l[other], l[k]
	}
	return l
}

// notAbove is an item that does not stand above that one: the same, or one of a lesser key, or of a lesser tag.
func (c *chance) notAbove(high api.Item) api.Item {
	x := api.Item{Key: high.Key, Val: keys()[c.below(len(keys()))] + int64(c.below(9)), Tag: high.Tag}
	switch by := c.below(4); {
	case by == 1 && x.Key > math.MinInt64:
		x.Key--
	case by > 1 && x.Tag > 0:
		x.Key, x.Tag = keys()[c.below(len(keys()))], x.Tag-1
	}
	return x
}

// heap is a tree of so many nodes that may be, of any shape, in which none stands above that item: many have the same tag and key as each other.
func (c *chance) heap(count int, high api.Item) *node.Node {
	if count == 0 {
		return nil
	}
	x, left := c.notAbove(high), c.below(count)
	return over(c.heap(left, x), x, c.heap(count-1-left, x))
}

// anyHeap is such a tree, of less nodes than that.
func (c *chance) anyHeap(below int) *node.Node {
	return c.heap(c.below(below), item(keys()[c.below(len(keys()))], tags()[c.below(len(tags()))]))
}

// anyItem is one that stands above none, or above all, or anywhere among those of these trees, or is the same as one of them.
func (c *chance) anyItem(l, r *node.Node) api.Item {
	at := l
	if at == nil || c.below(2) == 0 {
		at = r
	}
	for c.below(4) > 0 && at != nil {
		if c.below(2) == 0 {
			at = at.Left()
		} else {
			at = at.Right()
		}
	}
	if at == nil {
		return item(keys()[c.below(len(keys()))], tags()[c.below(len(tags()))])
	}
	return item(at.Key()+int64(c.below(3))-1, at.Tag()+uint64(c.below(3))-1)
}

// grove are so many trees, the first one empty, each other one made of such as stand ahead of it, few of which may be.
func (c *chance) grove(count int) []*node.Node {
	l := []*node.Node{nil}
	for len(l) < count {
		a, b := l[c.below(len(l))], l[c.below(len(l))]
		if a.Size()+b.Size() > 100 {
			a, b = nil, nil
		}
		l = append(l, over(a, item(keys()[c.below(len(keys()))], uint64(c.below(9))), b))
	}
	return l
}

// bead is a node of a tree, and all that it tells.
type bead struct {
	at, left, right *node.Node
	item            api.Item
	sum             int64
	size            int
}

// beadOf is one, as it tells of itself now.
func beadOf(n *node.Node) bead {
	return bead{n, n.Left(), n.Right(), itemOf(n), n.Sum(), n.Size()}
}

// beadsOf are a tree's nodes, each once, and what they tell.
func beadsOf(t *node.Node) []bead {
	var l []bead
	for _, n := range beads.Once(t) {
		l = append(l, beadOf(n))
	}
	return l
}

// isAsItWas tells whether all nodes of a tree still tell what they told.
func isAsItWas(l []bead) bool {
	return !slices.ContainsFunc(l, func(was bead) bool { return beadOf(was.at) != was })
}

// lineOf is a tree's line, unless that would be too long to be read.
func lineOf(t *node.Node) string {
	if t.Size() > 40 || t.Size() < 0 {
		return "a great tree"
	}
	return shape.Line(t)
}

// seeSame fails the test, unless both trees have the same beads.
func seeSame(t *testing.T, got, want *node.Node) {
	t.Helper()
	if !shape.Same(got, want) {
		t.Errorf("%s, not %s", lineOf(got), lineOf(want))
	}
}

// seeMost fails the test, unless Most of two trees is that.
func seeMost(t *testing.T, l, r *node.Node, want int) {
	t.Helper()
	if got := treapjoin.Most(l, r); got != want {
		t.Errorf("Most of %s and %s: %d, not %d", lineOf(l), lineOf(r), got, want)
	}
}

// seeNodes fails the test, unless the join of two trees that may be, and an item, is one that may be, of as many nodes, no more of which are new than may be, and both trees stay as they are. It goes to no node twice, and calls nothing within itself, so that they may stand in any number of places, and at any depth. It answers the join.
func seeNodes(t *testing.T, l *node.Node, x api.Item, r *node.Node) *node.Node {
	t.Helper()
	if !treap.May(l) || !treap.May(r) {
		t.Fatalf("the test's own trees %s and %s may not be joined", lineOf(l), lineOf(r))
	}
	wasL, wasR := beadsOf(l), beadsOf(r)
	all := treapjoin.Join(l, x, r)
	if at, e := treap.Check(all); e != api.OK || at != l.Size()+1+r.Size() {
		t.Fatalf("Check of the join of %s, %v, %s, which is %s: %d, %v", lineOf(l), x, lineOf(r), lineOf(all), at, e)
	}
	if all.Size() != l.Size()+1+r.Size() || all.Sum() != l.Sum()+x.Val+r.Sum() || !sound.Exact(all) {
		t.Errorf("the join of %s, %v, %s has the size %d, the sum %d", lineOf(l), x, lineOf(r), all.Size(), all.Sum())
	}
	most := mostOf(l, r)
	seeMost(t, l, r, most)
	if fresh := share.New(all, l, r); fresh < 1 || fresh > most {
		t.Errorf("of the join of %s, %v, %s %d nodes are new, not %d at most", lineOf(l), x, lineOf(r), fresh, most)
	}
	if !isAsItWas(wasL) || !isAsItWas(wasR) {
		t.Errorf("the join of %s, %v, %s changed them", lineOf(l), x, lineOf(r))
	}
	return all
}

// seeHeavy fails the test, unless a join is so, and has all items, in order; the trees' nodes may stand in more places than could be gone over.
func seeHeavy(t *testing.T, l *node.Node, x api.Item, r *node.Node) *node.Node {
	t.Helper()
	all := seeNodes(t, l, x, r)
	if digestIn(all) != digestIn(l).with(digestOf(x)).with(digestIn(r)) {
		t.Errorf("the join of %s, %v, %s has other items, or in another order", lineOf(l), x, lineOf(r))
	}
	return all
}

// seeJoin fails the test, unless a join is so, each item is gone to, and, if no two are the same, the join is the tree of all of them.
func seeJoin(t *testing.T, l *node.Node, x api.Item, r *node.Node) *node.Node {
	t.Helper()
	all, want := seeNodes(t, l, x, r), allOf(l, x, r)
	if got := treap.Items(all); !slices.Equal(got, want) {
		t.Errorf("the join of %s, %v, %s has the items %v", lineOf(l), x, lineOf(r), got)
	}
	if areUnlike(want) {
		seeSame(t, all, treap.Of(want...))
	}
	return all
}

// seeBoth fails the test, unless two trees are joined well with either one on the left.
func seeBoth(t *testing.T, a *node.Node, x api.Item, b *node.Node) {
	t.Helper()
	seeJoin(t, a, x, b)
	seeJoin(t, b, x, a)
}
