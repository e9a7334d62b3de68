package rbjoin_test

import (
	"math"
	"slices"
	"testing"

	"joinery/api"
	"joinery/node"
	"joinery/rb"
	"joinery/rbjoin"
	"joinery/share"
)

// top is the greatest tag, which is odd.
const top = math.MaxUint64

// numbers are keys and values that do not rise: the least and the greatest, those around 0, some twice, others of either sign.
func numbers() []int64 {
	return []int64{7, math.MinInt64, -1, math.MaxInt64, 0, 0, -1 << 62, 1, -9, 1 << 32, math.MaxInt64, 10, math.MinInt64}
}

// numberAt is one for each place, which goes round.
func numberAt(place int) int64 { return numbers()[place%len(numbers())] }

// tags are of all sizes, odd and even, the least and the greatest, and those on both sides of what an int holds.
func tags() []uint64 {
	return []uint64{0, 1, 2, 3, 4, 5, 6, 7, 98, 99, 1 << 32, 1<<63 - 2, 1<<63 - 1, 1 << 63, 1<<63 + 1, top - 3, top - 2, top - 1, top}
}

// tagged is a node of two empty trees, of any tag.
func tagged(tag uint64) *node.Node { return node.New(nil, 5, 7, tag, nil) }

// over is a node of any tag over two trees.
func over(l *node.Node, tag uint64, r *node.Node) *node.Node { return node.New(l, 0, 1, tag, r) }

// black and red are made of two trees.
func black(l, r *node.Node) *node.Node { return rb.Make(l, 3, -4, false, r) }
func red(l, r *node.Node) *node.Node   { return rb.Make(l, 3, -4, true, r) }

// full is a tree of as few nodes as may be of that black height, all black, each of its own.
func full(high int) *node.Node {
	if high == 0 {
		return nil
	}
	return black(full(high-1), full(high-1))
}

// The sides on which trees have red nodes.
const (
	redLeft = iota
	redRight
	redByTurns
	redByOthers
	redBoth
	places
)

// isRedAt tells whether in such a tree a black node so high has a red one on its left side, and on its right one.
func isRedAt(high, place int) (onLeft, onRight bool) {
	switch place {
	case redByTurns:
		place = redLeft + high%2
	case redByOthers:
		place = redRight - high%2
	}
	return place != redRight, place != redLeft
}

// crowned is a red node over two such trees, or, if it is not to be red, one of them.
func crowned(isRed bool, make func() *node.Node) *node.Node {
	if isRed {
		return red(make(), make())
	}
	return make()
}

// rubied is a tree of that black height with red nodes wherever they may stand in such places, each of its own. With both sides red it has as many nodes as may be.
func rubied(high, place int) *node.Node {
	if high == 0 {
		return nil
	}
	onLeft, onRight := isRedAt(high, place)
	below := func() *node.Node { return rubied(high-1, place) }
	return black(crowned(onLeft, below), crowned(onRight, below))
}

// rubiedTwins is as rubied, but one tree stands below each red or black node, in many places.
func rubiedTwins(high, place int) *node.Node {
	var t *node.Node
	for k := range high {
		onLeft, onRight := isRedAt(k+1, place)
		below := func() *node.Node { return t }
		t = black(crowned(onLeft, below), crowned(onRight, below))
	}
	return t
}

// twins is made of black nodes which have the same tree on both sides, so high.
func twins(high int) *node.Node {
	var t *node.Node
	for range high {
		t = black(t, t)
	}
	return t
}

// partsOf are parts of a rank: the fewest nodes, red ones in all kinds of places, and others, as many as that; black ones, and, but of the rank 0, red ones.
func partsOf(c *chance, half, others int) []*node.Node {
	l := []*node.Node{full(half)}
	for place := range places {
		l = append(l, rubied(half, place))
	}
	for range others {
		l = append(l, c.blackPart(half, 1+c.below(4)))
	}
	if half > 0 {
		l = append(l, red(full(half-1), full(half-1)))
		for place := range places {
			l = append(l, red(rubied(half-1, place), rubied(half-1, place)))
		}
		for range others {
			l = append(l, red(c.blackPart(half-1, 1+c.below(4)), c.blackPart(half-1, 1+c.below(4))))
		}
	}
	return l
}

// smallParts are all parts of so many nodes at most, black and red.
func smallParts(most int) []*node.Node {
	bySize := [][]*node.Node{{nil}}
	for count := 1; count <= most; count++ {
		var all []*node.Node
		for left := range count {
			for _, l := range bySize[left] {
				for _, r := range bySize[count-1-left] {
					for _, x := range []*node.Node{black(l, r), red(l, r)} {
						if rb.Part(x) {
							all = append(all, x)
						}
					}
				}
			}
		}
		bySize = append(bySize, all)
	}
	return slices.Concat(bySize...)
}

// The ways that a deep tree goes.
const (
	leftward = iota
	rightward
	zigzag
	ways
)

// deepOver is a tree so many nodes deep over another one; each is well tagged.
func deepOver(t *node.Node, deep, way int, isRed func(k int) bool) *node.Node {
	for k := range deep {
		if way == leftward || way == zigzag && k%2 == 0 {
			t = rb.Make(t, 3, 4, isRed(k), nil)
		} else {
			t = rb.Make(nil, 3, 4, isRed(k), t)
		}
	}
	return t
}

// withPairs is a tree of the same shape, all of other nodes, with these pairs from left to right; it tells, too, how many there are.
func withPairs(t *node.Node, from int, pair func(place int) api.Pair) (*node.Node, int) {
	if t == nil {
		return nil, 0
	}
	l, left := withPairs(t.Left(), from, pair)
	p := pair(from + left)
	r, right := withPairs(t.Right(), from+left+1, pair)
	return node.New(l, p.Key, p.Val, t.Tag(), r), left + 1 + right
}

// rising is a tree of the same shape, whose keys rise by 1 from one on, so that each stands once.
func rising(t *node.Node, from int) *node.Node {
	x, _ := withPairs(t, from, func(place int) api.Pair { return api.Pair{Key: int64(place), Val: numberAt(place)} })
	return x
}

// shuffled is a tree of the same shape, whose keys and values are of all sizes, and do not rise.
func shuffled(t *node.Node) *node.Node {
	x, _ := withPairs(t, 0, func(place int) api.Pair { return api.Pair{Key: numberAt(place), Val: numberAt(place / 3)} })
	return x
}

// pairsOf are a tree's pairs from left to right.
func pairsOf(t *node.Node) []api.Pair { return addPairs(nil, t) }

// addPairs are those, behind others.
func addPairs(l []api.Pair, t *node.Node) []api.Pair {
	if t == nil {
		return l
	}
	l = append(addPairs(l, t.Left()), api.Pair{Key: t.Key(), Val: t.Val()})
	return addPairs(l, t.Right())
}

// isOdd tells whether there is a tree with an odd tag.
func isOdd(t *node.Node) bool { return t != nil && t.Tag()%2 == 1 }

// blacksOf is how many nodes with even tags are gone by on each way down, -1 where ways differ, or where an odd one stands right over another one.
func blacksOf(t *node.Node) int {
	if t == nil {
		return 0
	}
	l, r := blacksOf(t.Left()), blacksOf(t.Right())
	switch {
	case l < 0 || l != r:
		return -1
	case !isOdd(t):
		return l + 1
	case isOdd(t.Left()) || isOdd(t.Right()):
		return -1
	}
	return l
}

// chance is a row of numbers that is the same in each run.
type chance uint64

// below is a number from 0 to most - 1.
func (c *chance) below(most int) int {
	*c = *c*6364136223846793005 + 1442695040888963407
	return int(uint64(*c) >> 33 % uint64(most))
}

// part is a part of that black height, of any such shape; one of so many of its nodes, where that may be, is red.
func (c *chance) part(high, oneOf int) *node.Node {
	if c.below(oneOf) == 0 {
		return red(c.blackPart(high, oneOf), c.blackPart(high, oneOf))
	}
	return c.blackPart(high, oneOf)
}

// blackPart is a part that is not red.
func (c *chance) blackPart(high, oneOf int) *node.Node {
	if high == 0 {
		return nil
	}
	return black(c.part(high-1, oneOf), c.part(high-1, oneOf))
}

// anyPart is a part of a black height below that, black or red, with few or many red nodes.
func (c *chance) anyPart(below int) *node.Node { return c.part(c.below(below), 1+c.below(5)) }

// spoilt is a tree of the same shape, all of other nodes, about one of so many of which has a tag that is no matter what, or the other colour.
func (c *chance) spoilt(t *node.Node, oneOf int) *node.Node {
	if t == nil {
		return nil
	}
	l, r := c.spoilt(t.Left(), oneOf), c.spoilt(t.Right(), oneOf)
	switch {
	case c.below(oneOf) > 0:
		return rb.Make(l, t.Key(), t.Val(), isOdd(t), r)
	case c.below(2) == 0:
		return rb.Make(l, t.Key(), t.Val(), !isOdd(t), r)
	}
	return node.New(l, t.Key(), t.Val(), tags()[c.below(len(tags()))], r)
}

// grove are so many trees, the first one empty, each other one made of such as stand ahead of it, most of them well tagged, few of them even.
func (c *chance) grove(count int) []*node.Node {
	l := []*node.Node{nil}
	for len(l) < count {
		a, b := l[c.below(len(l))], l[c.below(len(l))]
		switch {
		case a.Size()+b.Size() > 100:
			l = append(l, black(nil, nil))
		case c.below(5) == 0:
			l = append(l, over(a, tags()[c.below(len(tags()))], b))
		default:
			l = append(l, rb.Make(a, 6, 7, c.below(2) == 0, b))
		}
	}
	return l
}

// bead is a node of a tree, and all that it tells.
type bead struct {
	at, left, right *node.Node
	key, val, sum   int64
	tag             uint64
	size            int
}

// beadsOf are a tree's nodes, and what they tell.
func beadsOf(t *node.Node) []bead { return addBeads(nil, t) }

// addBeads are those, behind others.
func addBeads(l []bead, t *node.Node) []bead {
	if t == nil {
		return l
	}
	l = append(l, bead{t, t.Left(), t.Right(), t.Key(), t.Val(), t.Sum(), t.Tag(), t.Size()})
	return addBeads(addBeads(l, t.Left()), t.Right())
}

// rankOf is a tree's rank by its tag alone: the next even number, if that is odd.
func rankOf(t *node.Node) int { return int(t.Tag() + t.Tag()%2) }

// differ is by how much two ranks differ.
func differ(l, r *node.Node) int {
	d := rankOf(l) - rankOf(r)
	return max(d, -d)
}

// seeRank fails the test, unless a join of two parts may be, has the rank that it has to have, and so many new nodes as it may have. It goes over no place, so that there may be any number of them.
func seeRank(t *testing.T, l, r, x *node.Node) {
	t.Helper()
	if !rb.Part(l) || !rb.Part(r) {
		t.Fatalf("the test's own trees, of the tags %d and %d, are no parts", l.Tag(), r.Tag())
	}
	if at, e := rb.Check(x); e != api.OK || !rb.May(x) || isOdd(x) {
		t.Fatalf("the join of trees of the tags %d and %d is wrong at %d: %v", l.Tag(), r.Tag(), at, e)
	}
	if high := max(rankOf(l), rankOf(r)); rb.Rank(x) != high && rb.Rank(x) != high+2 {
		t.Errorf("the join of trees of the tags %d and %d has the rank %d", l.Tag(), r.Tag(), rb.Rank(x))
	}
	if x.Size() != l.Size()+1+r.Size() {
		t.Errorf("the join of trees of the sizes %d and %d has the size %d", l.Size(), r.Size(), x.Size())
	}
	seeMost(t, l, r, differ(l, r)+3)
	if fresh := share.New(x, l, r); fresh < 1 || fresh > rbjoin.Most(l, r) {
		t.Errorf("of the join of trees of the tags %d and %d %d nodes are new", l.Tag(), r.Tag(), fresh)
	}
}

// seeMost fails the test, unless Most tells that, whichever tree is named first.
func seeMost(t *testing.T, l, r *node.Node, want int) {
	t.Helper()
	if got, back := rbjoin.Most(l, r), rbjoin.Most(r, l); got != want || back != want {
		t.Errorf("Most of trees of the tags %d and %d is %d, and the other way round %d, not %d", l.Tag(), r.Tag(), got, back, want)
	}
}

// seeJoin fails the test, unless the join of two parts, and a pair, is what the chapter says, and both stay as they are. It answers the join.
func seeJoin(t *testing.T, l *node.Node, key, val int64, r *node.Node) *node.Node {
	t.Helper()
	wasL, wasR := beadsOf(l), beadsOf(r)
	x := rbjoin.Join(l, key, val, r)
	seeRank(t, l, r, x)
	if blacks := blacksOf(x); 2*blacks != rb.Rank(x) {
		t.Errorf("a join of the rank %d has %d black nodes on each way down", rb.Rank(x), blacks)
	}
	want := slices.Concat(pairsOf(l), []api.Pair{{Key: key, Val: val}}, pairsOf(r))
	if got := pairsOf(x); !slices.Equal(got, want) {
		t.Errorf("the join has the pairs %v, not %v", got, want)
	}
	if x.Sum() != l.Sum()+val+r.Sum() {
		t.Errorf("the sum of a join is %d", x.Sum())
	}
	if !slices.Equal(beadsOf(l), wasL) || !slices.Equal(beadsOf(r), wasR) {
		t.Errorf("a join of trees of the tags %d and %d changed them", l.Tag(), r.Tag())
	}
	return x
}

// seeBoth fails the test, unless two trees are joined well with either one on the left, keys that rise and such as do not.
func seeBoth(t *testing.T, a, b *node.Node) {
	t.Helper()
	for range 2 {
		l, r := rising(a, 1), rising(b, a.Size()+2)
		seeJoin(t, l, int64(a.Size())+1, 9, r)
		seeJoin(t, shuffled(a), numberAt(a.Size()), numberAt(b.Size()), shuffled(b))
		a, b = b, a
	}
}
