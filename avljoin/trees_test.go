package avljoin_test

import (
	"math"
	"slices"
	"testing"

	"joinery/api"
	"joinery/avl"
	"joinery/avljoin"
	"joinery/node"
	"joinery/share"
)

// top is the greatest tag.
const top = math.MaxUint64

// numbers are keys and values that do not rise: the least and the greatest, those around 0, some twice, others of either sign.
func numbers() []int64 {
	return []int64{7, math.MinInt64, -1, math.MaxInt64, 0, 0, -1 << 62, 1, -9, 1 << 32, math.MaxInt64, 10, math.MinInt64}
}

// numberAt is one for each place, which goes round.
func numberAt(place int) int64 { return numbers()[place%len(numbers())] }

// tags are of all sizes, the least and the greatest, and those on both sides of what an int holds.
func tags() []uint64 {
	return []uint64{0, 1, 2, 3, 4, 5, 99, 1 << 32, 1<<63 - 2, 1<<63 - 1, 1 << 63, 1<<63 + 1, top - 2, top - 1, top}
}

// tagged is a node of two empty trees, of any tag.
func tagged(tag uint64) *node.Node { return node.New(nil, 5, 7, tag, nil) }

// over is a node of any tag over two trees.
func over(l *node.Node, tag uint64, r *node.Node) *node.Node { return node.New(l, 0, 1, tag, r) }

// made is made of two trees.
func made(l, r *node.Node) *node.Node { return avl.Make(l, 3, -4, r) }

// leaf is made of two empty trees.
func leaf() *node.Node { return made(nil, nil) }

// full is a tree of all nodes that there may be of that height, each of its own.
func full(high int) *node.Node {
	if high == 0 {
		return nil
	}
	return made(full(high-1), full(high-1))
}

// The sides that are the higher one in trees that lean everywhere.
const (
	leftHigh = iota
	rightHigh
	turnsHigh
	othersHigh
	leans
)

// isLeftHigh tells whether in such a tree the left side of a node of that height is the higher one.
func isLeftHigh(high, side int) bool {
	return side == leftHigh || side == turnsHigh && high%2 == 0 || side == othersHigh && high%2 == 1
}

// lean is a tree of as few nodes as may be of that height, each of its own.
func lean(high, side int) *node.Node {
	if high <= 0 {
		return nil
	}
	a, b := lean(high-1, side), lean(high-2, side)
	if isLeftHigh(high, side) {
		return made(a, b)
	}
	return made(b, a)
}

// leanTwins is a leanest tree of that height which has one node of each height, in many places.
func leanTwins(high, side int) *node.Node {
	var lower, t *node.Node
	for k := range high {
		above := made(lower, t)
		if isLeftHigh(k+1, side) {
			above = made(t, lower)
		}
		lower, t = t, above
	}
	return t
}

// twins is made of nodes which have the same tree on both sides, so high.
func twins(high int) *node.Node {
	var t *node.Node
	for range high {
		t = made(t, t)
	}
	return t
}

// The ways that a deep tree goes.
const (
	leftward = iota
	rightward
	zigzag
	ways
)

// deepOver is a tree so many nodes deep over another one; each is well tagged.
func deepOver(t *node.Node, deep, way int) *node.Node {
	for k := range deep {
		if way == leftward || way == zigzag && k%2 == 0 {
			t = made(t, nil)
		} else {
			t = made(nil, t)
		}
	}
	return t
}

// withPairs is a tree of the same shape, all of other nodes, with these pairs from left to right; it tells, too, how many there are.
func withPairs(t *node.Node, from int, pair func(place int) api.Pair) (*node.Node, int) {
	if t == nil {
		return nil, 0
	}
	l, left := withPairs(t.Left(), from, pair)
	p := pair(from + left)
	r, right := withPairs(t.Right(), from+left+1, pair)
	return node.New(l, p.Key, p.Val, t.Tag(), r), left + 1 + right
}

// rising is a tree of the same shape, whose keys rise by 1 from one on, so that each stands once.
func rising(t *node.Node, from int) *node.Node {
	x, _ := withPairs(t, from, func(place int) api.Pair { return api.Pair{Key: int64(place), Val: numberAt(place)} })
	return x
}

// shuffled is a tree of the same shape, whose keys and values are of all sizes, and do not rise.
func shuffled(t *node.Node) *node.Node {
	x, _ := withPairs(t, 0, func(place int) api.Pair { return api.Pair{Key: numberAt(place), Val: numberAt(place / 3)} })
	return x
}

// pairsOf are a tree's pairs from left to right.
func pairsOf(t *node.Node) []api.Pair {
	if t == nil {
		return nil
	}
	l := append(pairsOf(t.Left()), api.Pair{Key: t.Key(), Val: t.Val()})
	return append(l, pairsOf(t.Right())...)
}

// heightOf is how high a tree is, by its nodes alone.
func heightOf(t *node.Node) int {
	if t == nil {
		return 0
	}
	return 1 + max(heightOf(t.Left()), heightOf(t.Right()))
}

// smallTrees are all trees that may be, of so many nodes at most.
func smallTrees(most int) []*node.Node {
	bySize := [][]*node.Node{{nil}}
	for count := 1; count <= most; count++ {
		var all []*node.Node
		for left := range count {
			for _, l := range bySize[left] {
				for _, r := range bySize[count-1-left] {
					if x := made(l, r); avl.May(x) {
						all = append(all, x)
					}
				}
			}
		}
		bySize = append(bySize, all)
	}
	return slices.Concat(bySize...)
}

// chance is a row of numbers that is the same in each run.
type chance uint64

// below is a number from 0 to most - 1.
func (c *chance) below(most int) int {
	*c = *c*6364136223846793005 + 1442695040888963407
	return int(uint64(*c) >> 33 % uint64(most))
}

// balanced is a tree that may be, of that height, of any such shape.
func (c *chance) balanced(high int) *node.Node {
	if high <= 0 {
		return nil
	}
	switch c.below(3) {
	case 0:
		return made(c.balanced(high-1), c.balanced(high-2))
	case 1:
		return made(c.balanced(high-2), c.balanced(high-1))
	}
	return made(c.balanced(high-1), c.balanced(high-1))
}

// spoilt is a tree of the same shape, all of other nodes, about one of so many of which has a tag that is no matter what.
func (c *chance) spoilt(t *node.Node, oneOf int) *node.Node {
	if t == nil {
		return nil
	}
	tag := t.Tag()
	if c.below(oneOf) == 0 {
		tag = tags()[c.below(len(tags()))]
	}
	return node.New(c.spoilt(t.Left(), oneOf), t.Key(), t.Val(), tag, c.spoilt(t.Right(), oneOf))
}

// grove are so many trees, the first one empty, each other one made of such as stand ahead of it, most of them well tagged, few of them even.
func (c *chance) grove(count int) []*node.Node {
	l := []*node.Node{nil}
	for len(l) < count {
		a, b := l[c.below(len(l))], l[c.below(len(l))]
		switch {
		case a.Size()+b.Size() > 100:
			l = append(l, leaf())
		case c.below(5) == 0:
			l = append(l, over(a, tags()[c.below(len(tags()))], b))
		default:
			l = append(l, made(a, b))
		}
	}
	return l
}

// bead is a node of a tree, and all that it tells.
type bead struct {
	at, left, right *node.Node
	key, val, sum   int64
	tag             uint64
	size            int
}

// beadsOf are a tree's nodes, and what they tell.
func beadsOf(t *node.Node) []bead {
	if t == nil {
		return nil
	}
	l := []bead{{t, t.Left(), t.Right(), t.Key(), t.Val(), t.Sum(), t.Tag(), t.Size()}}
	return slices.Concat(l, beadsOf(t.Left()), beadsOf(t.Right()))
}

// differ is by how much two tags differ.
func differ(l, r *node.Node) int {
	d := int(l.Tag()) - int(r.Tag())
	return max(d, -d)
}

// seeRank fails the test, unless a join of two that may be, may be, and is as high as it has to be, and has so many new nodes as it may have. It goes over no place, so that there may be any number of them.
func seeRank(t *testing.T, l, r, x *node.Node) {
	t.Helper()
	if at, e := avl.Check(x); e != api.OK {
		t.Fatalf("the join of trees of the ranks %d and %d is wrong at %d: %v", avl.Rank(l), avl.Rank(r), at, e)
	}
	if high := max(avl.Rank(l), avl.Rank(r)); avl.Rank(x) != high && avl.Rank(x) != high+1 {
		t.Errorf("the join of trees of the ranks %d and %d has the rank %d", avl.Rank(l), avl.Rank(r), avl.Rank(x))
	}
	if x.Size() != l.Size()+1+r.Size() {
		t.Errorf("the join of trees of the sizes %d and %d has the size %d", l.Size(), r.Size(), x.Size())
	}
	seeMost(t, l, r, differ(l, r)+1)
	if fresh := share.New(x, l, r); fresh < 1 || fresh > avljoin.Most(l, r) {
		t.Errorf("of the join of trees of the ranks %d and %d %d nodes are new", avl.Rank(l), avl.Rank(r), fresh)
	}
}

// seeMost fails the test, unless Most tells that, whichever tree is named first.
func seeMost(t *testing.T, l, r *node.Node, want int) {
	t.Helper()
	if got, back := avljoin.Most(l, r), avljoin.Most(r, l); got != want || back != want {
		t.Errorf("Most of trees of the tags %d and %d is %d, and the other way round %d, not %d", l.Tag(), r.Tag(), got, back, want)
	}
}

// seeJoin fails the test, unless the join of two that may be, and a pair, is what the chapter says, and both stay as they are. It answers the join.
func seeJoin(t *testing.T, l *node.Node, key, val int64, r *node.Node) *node.Node {
	t.Helper()
	wasL, wasR := beadsOf(l), beadsOf(r)
	x := avljoin.Join(l, key, val, r)
	seeRank(t, l, r, x)
	if heightOf(x) != avl.Rank(x) {
		t.Errorf("a join of the rank %d has the height %d", avl.Rank(x), heightOf(x))
	}
	want := slices.Concat(pairsOf(l), []api.Pair{{Key: key, Val: val}}, pairsOf(r))
	if got := pairsOf(x); !slices.Equal(got, want) {
		t.Errorf("the join has the pairs %v, not %v", got, want)
	}
	if !slices.Equal(beadsOf(l), wasL) || !slices.Equal(beadsOf(r), wasR) {
		t.Errorf("a join of trees of the ranks %d and %d changed them", avl.Rank(l), avl.Rank(r))
	}
	return x
}

// seeBoth fails the test, unless two trees are joined well with either one on the left, keys that rise and such as do not.
func seeBoth(t *testing.T, a, b *node.Node) {
	t.Helper()
	for range 2 {
		l, r := rising(a, 1), rising(b, a.Size()+2)
		seeJoin(t, l, int64(a.Size())+1, 9, r)
		seeJoin(t, shuffled(a), numberAt(a.Size()), numberAt(b.Size()), shuffled(b))
		a, b = b, a
	}
}
