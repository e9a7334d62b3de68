package wbjoin_test

import (
	"math"
	"math/bits"
	"slices"
	"testing"

	"joinery/api"
	"joinery/node"
	"joinery/share"
	"joinery/wb"
	"joinery/wbjoin"
)

// top is the greatest tag.
const top = math.MaxUint64

// most is the number of nodes that two trees may have together.
const most = 1 << 40

// numbers are keys and values that do not rise: the least and the greatest, those around 0, some twice, others of either sign.
func numbers() []int64 {
	return []int64{7, math.MinInt64, -1, math.MaxInt64, 0, 0, -1 << 62, 1, -9, 1 << 32, math.MaxInt64, 10, math.MinInt64}
}

// numberAt is one for each place, which goes round.
func numberAt(place int) int64 { return numbers()[place%len(numbers())] }

// tags are of all sizes, the greatest among them, but 0.
func tags() []uint64 {
	return []uint64{1, 2, 3, 99, 1 << 32, 1<<63 - 1, 1 << 63, top - 1, top}
}

// tagged is a node of two empty trees, of any tag.
func tagged(tag uint64) *node.Node { return node.New(nil, 5, 7, tag, nil) }

// over is a node of any tag over two trees.
func over(l *node.Node, tag uint64, r *node.Node) *node.Node { return node.New(l, 0, 1, tag, r) }

// made is made of two trees.
func made(l, r *node.Node) *node.Node { return wb.Make(l, 3, -4, r) }

// leaf is made of two empty trees.
func leaf() *node.Node { return made(nil, nil) }

// weightOf is a tree's weight, by its size.
func weightOf(t *node.Node) int { return t.Size() + 1 }

// rankOf is a tree's rank, by its size: how often its weight may be halved.
func rankOf(t *node.Node) int { return bits.Len(uint(weightOf(t))) - 1 }

// areAlike tells whether two weights that are not too great are alike, by the words of layer 18.
func areAlike(a, b int) bool { return 29*(a+b) <= 100*a && 29*(a+b) <= 100*b }

// leastSide is the least weight that a side of a node of that weight may have: 29 of 100 parts, rounded up, so that nothing goes round.
func leastSide(weight int) int { return weight/100*29 + (weight%100*29+99)/100 }

// The shares of a node's weight that a side has: as little as may be, as much as may be, or half, rounded down or up.
const (
	leastShare = iota
	mostShare
	lessHalf
	moreHalf
	allShares
)

// shareOf is so much of a weight that is not 1.
func shareOf(weight, some int) int {
	switch some {
	case leastShare:
		return leastSide(weight)
	case mostShare:
		return weight - leastSide(weight)
	case lessHalf:
		return weight / 2
	}
	return weight - weight/2
}

// The ways that trees lean: the side that is the heavier one, as much as may be, all over the tree. Those that do not lean have sides of half the weight.
const (
	leftHeavy = iota
	rightHeavy
	turnsHeavy
	othersHeavy
	noneHeavy
	leans
)

// leftShare is which share the left side of such a tree has, on levels of that number.
func leftShare(lean, level int) int {
	switch lean {
	case leftHeavy:
		return mostShare
	case rightHeavy:
		return leastShare
	case noneHeavy:
		return lessHalf
	}
	if (lean == turnsHeavy) == (level%2 == 0) {
		return mostShare
	}
	return leastShare
}

// lean is a tree of that weight that leans so, each node of its own.
func lean(weight, how, level int) *node.Node {
	if weight == 1 {
		return nil
	}
	left := shareOf(weight, leftShare(how, level))
	return made(lean(left, how, level+1), lean(weight-left, how, level+1))
}

// spot is what a tree is made for: a weight, how it leans, and whether its level is odd.
type spot struct{ weight, how, level int }

// heavies make trees of any weight, as lean does, but of few nodes, which stand in many places. Each node has a key of its own.
type heavies map[spot]*node.Node

// of is the one for that spot.
func (h heavies) of(at spot) *node.Node {
	if at.weight == 1 {
		return nil
	}
	at.level %= 2
	if h[at] == nil {
		left := shareOf(at.weight, leftShare(at.how, at.level))
		l, r := h.of(spot{left, at.how, at.level + 1}), h.of(spot{at.weight - left, at.how, at.level + 1})
		key := int64(len(h))
		h[at] = wb.Make(l, key, -key, r)
	}
	return h[at]
}

// heavy is a tree of that weight, of few nodes, whose sides have half of it each.
func heavy(weight int) *node.Node { return heavies{}.of(spot{weight, noneHeavy, 0}) }

// twins is made of nodes which have the same tree on both sides, so high.
func twins(high int) *node.Node {
	var t *node.Node
	for range high {
		t = made(t, t)
	}
	return t
}

// inward is a tree of that weight whose right side, and its, and so on, have those shares of what they stand in, and below that half; the left side of that which is last but one has the share that is named apart, so that what a double turn parts is of either kind.
func inward(weight, parted int, shares ...int) *node.Node {
	if weight == 1 {
		return nil
	}
	if len(shares) == 0 {
		return lean(weight, noneHeavy, 0)
	}
	right := shareOf(weight, shares[0])
	l := lean(weight-right, noneHeavy, 0)
	if weight-right > 1 && len(shares) == 1 {
		part := shareOf(weight-right, parted)
		l = made(lean(part, noneHeavy, 0), lean(weight-right-part, noneHeavy, 0))
	}
	return made(l, inward(right, parted, shares[1:]...))
}

// mirrored is a tree turned about.
func mirrored(x *node.Node) *node.Node {
	if x == nil {
		return nil
	}
	return node.New(mirrored(x.Right()), x.Key(), x.Val(), x.Tag(), mirrored(x.Left()))
}

// allOf are all trees of each weight up to one that may be; the empty one is the only one of the weight 1.
func allOf(weight int) [][]*node.Node {
	l := [][]*node.Node{nil, {nil}}
	for w := 2; w <= weight; w++ {
		var all []*node.Node
		for left := leastSide(w); left <= w-leastSide(w); left++ {
			for _, a := range l[left] {
				for _, b := range l[w-left] {
					all = append(all, made(a, b))
				}
			}
		}
		l = append(l, all)
	}
	return l
}

// The ways that a deep tree goes.
const (
	leftward = iota
	rightward
	zigzag
	ways
)

// deepOver is a tree so many nodes deep over another one.
func deepOver(t *node.Node, deep, way int) *node.Node {
	for k := range deep {
		if way == leftward || way == zigzag && k%2 == 0 {
			t = made(t, nil)
		} else {
			t = made(nil, t)
		}
	}
	return t
}

// withPairs is a tree of the same shape, all of other nodes, with these pairs from left to right; it tells, too, how many there are.
func withPairs(t *node.Node, from int, pair func(place int) api.Pair) (*node.Node, int) {
	if t == nil {
		return nil, 0
	}
	l, left := withPairs(t.Left(), from, pair)
	p := pair(from + left)
	r, right := withPairs(t.Right(), from+left+1, pair)
	return node.New(l, p.Key, p.Val, t.Tag(), r), left + 1 + right
}

// rising is a tree of the same shape, whose keys rise by 1 from one on, so that each stands once.
func rising(t *node.Node, from int) *node.Node {
	x, _ := withPairs(t, from, func(place int) api.Pair { return api.Pair{Key: int64(place), Val: numberAt(place)} })
	return x
}

// shuffled is a tree of the same shape, whose keys and values are of all sizes, and do not rise.
func shuffled(t *node.Node) *node.Node {
	x, _ := withPairs(t, 0, func(place int) api.Pair { return api.Pair{Key: numberAt(place), Val: numberAt(place / 3)} })
	return x
}

// pairsOf are a tree's pairs from left to right.
func pairsOf(t *node.Node) []api.Pair { return addPairs(nil, t) }

// addPairs are those, behind others.
func addPairs(l []api.Pair, t *node.Node) []api.Pair {
	if t == nil {
		return l
	}
	l = append(addPairs(l, t.Left()), api.Pair{Key: t.Key(), Val: t.Val()})
	return addPairs(l, t.Right())
}

// digest tells rows of pairs apart, as good as always: it is found from those of the row's parts, so that rows may be longer than could be gone over. Its numbers are those modulo a prime.
type digest struct{ sum, power uint64 }

// prime is that.
const prime = 1<<61 - 1

// timesOf is a product of two such numbers.
func timesOf(a, b uint64) uint64 {
	high, low := bits.Mul64(a, b)
	return bits.Rem64(high, low, prime)
}

// digestOf is the one of a pair alone.
func digestOf(key, val int64) digest {
	sum := timesOf(uint64(key)%prime, 0x123456789abcdef) + timesOf(uint64(val)%prime, 0xfedcba987654321) + 1
	return digest{sum % prime, 0x1badcafe0ddba11}
}

// with is the digest of both rows, one behind the other.
func (d digest) with(other digest) digest {
	return digest{(timesOf(d.sum, other.power) + other.sum) % prime, timesOf(d.power, other.power)}
}

// digestIn is the digest of a tree's pairs, from left to right; each node is gone to once.
func digestIn(t *node.Node) digest {
	been := map[*node.Node]digest{nil: {0, 1}}
	var goTo func(n *node.Node) digest
	goTo = func(n *node.Node) digest {
		if _, is := been[n]; !is {
			been[n] = goTo(n.Left()).with(digestOf(n.Key(), n.Val())).with(goTo(n.Right()))
		}
		return been[n]
	}
	return goTo(t)
}

// chance is a row of numbers that is the same in each run.
type chance uint64

// below is a number from 0 to most - 1.
func (c *chance) below(most int) int {
	*c = *c*6364136223846793005 + 1442695040888963407
	return int(uint64(*c) >> 33 % uint64(most))
}

// balanced is a tree that may be, of that weight, of any such shape. About one of so many of its nodes leans as much as may be.
func (c *chance) balanced(weight, oneOf int) *node.Node {
	if weight == 1 {
		return nil
	}
	least := leastSide(weight)
	left := least + c.below(weight-2*least+1)
	if c.below(oneOf) == 0 {
		left = shareOf(weight, c.below(2))
	}
	return made(c.balanced(left, oneOf), c.balanced(weight-left, oneOf))
}

// anyTree is such a tree of a weight below that, which leans much or little. Light ones are as many as heavy ones.
func (c *chance) anyTree(below int) *node.Node {
	return c.balanced(1+c.below(1+c.below(below-1)), 1+c.below(5))
}

// spoilt is a tree like it, all of other nodes, about one of so many of which has another tag, or other sides.
func (c *chance) spoilt(t *node.Node, oneOf int) *node.Node {
	if t == nil {
		return nil
	}
	l, r := c.spoilt(t.Left(), oneOf), c.spoilt(t.Right(), oneOf)
	switch {
	case c.below(oneOf) > 0:
		return wb.Make(l, t.Key(), t.Val(), r)
	case c.below(3) > 0:
		return node.New(l, t.Key(), t.Val(), tags()[c.below(len(tags()))], r)
	}
	return made(l, made(r, c.balanced(1+c.below(6), 3)))
}

// grove are so many trees, the first one empty, each other one made of such as stand ahead of it, few of which may be.
func (c *chance) grove(count int) []*node.Node {
	l := []*node.Node{nil}
	for len(l) < count {
		a, b := l[c.below(len(l))], l[c.below(len(l))]
		switch {
		case a.Size()+b.Size() > 100:
			l = append(l, leaf())
		case c.below(8) == 0:
			l = append(l, over(a, tags()[c.below(len(tags()))], b))
		default:
			l = append(l, made(a, b))
		}
	}
	return l
}

// bead is a node of a tree, and all that it tells.
type bead struct {
	at, left, right *node.Node
	key, val, sum   int64
	tag             uint64
	size            int
}

// beadOf is one, as it tells of itself now.
func beadOf(n *node.Node) bead {
	return bead{n, n.Left(), n.Right(), n.Key(), n.Val(), n.Sum(), n.Tag(), n.Size()}
}

// isAsItWas tells whether all nodes of a tree still tell what they told.
func isAsItWas(l []bead) bool {
	return !slices.ContainsFunc(l, func(was bead) bool { return beadOf(was.at) != was })
}

// beadsOf are a tree's nodes, each once, and what they tell.
func beadsOf(t *node.Node) []bead {
	var l []bead
	been := map[*node.Node]bool{nil: true}
	var goTo func(n *node.Node)
	goTo = func(n *node.Node) {
		if been[n] {
			return
		}
		been[n] = true
		l = append(l, beadOf(n))
		goTo(n.Left())
		goTo(n.Right())
	}
	goTo(t)
	return l
}

// seeMost fails the test, unless Most tells that, whichever tree is named first.
func seeMost(t *testing.T, l, r *node.Node, want int) {
	t.Helper()
	if got, back := wbjoin.Most(l, r), wbjoin.Most(r, l); got != want || back != want {
		t.Errorf("Most of trees of the weights %d and %d is %d, and the other way round %d, not %d", weightOf(l), weightOf(r), got, back, want)
	}
}

// seeHeavy fails the test, unless the join of two that may be, and a pair, is what the chapter says, and both stay as they are. It goes to no node twice, so that they may stand in any number of places. It answers the join.
func seeHeavy(t *testing.T, l *node.Node, key, val int64, r *node.Node) *node.Node {
	t.Helper()
	wasL, wasR := beadsOf(l), beadsOf(r)
	x := wbjoin.Join(l, key, val, r)
	if !wb.May(l) || !wb.May(r) || l.Size()+r.Size() > most {
		t.Fatalf("the test's own trees, of the weights %d and %d, may not be joined", weightOf(l), weightOf(r))
	}
	if at, e := wb.Check(x); e != api.OK || at != l.Size()+1+r.Size() {
		t.Fatalf("Check of the join of trees of the weights %d and %d: %d, %v", weightOf(l), weightOf(r), at, e)
	}
	if x.Size() != l.Size()+1+r.Size() || x.Sum() != l.Sum()+val+r.Sum() {
		t.Errorf("the join of trees of the weights %d and %d has the size %d, the sum %d", weightOf(l), weightOf(r), x.Size(), x.Sum())
	}
	if got, want := digestIn(x), digestIn(l).with(digestOf(key, val)).with(digestIn(r)); got != want {
		t.Errorf("the join of trees of the weights %d and %d has other pairs, or in another order", weightOf(l), weightOf(r))
	}
	high, low := max(rankOf(l), rankOf(r)), min(rankOf(l), rankOf(r))
	seeMost(t, l, r, 6*(high-low)+1)
	if fresh := share.New(x, l, r); fresh < 1 || fresh > 6*(high-low)+1 {
		t.Errorf("of the join of trees of the weights %d and %d %d nodes are new", weightOf(l), weightOf(r), fresh)
	}
	if !isAsItWas(wasL) || !isAsItWas(wasR) {
		t.Errorf("a join of trees of the weights %d and %d changed them", weightOf(l), weightOf(r))
	}
	return x
}

// seeJoin fails the test, unless a join is so, and has all the pairs, each of which is gone to.
func seeJoin(t *testing.T, l *node.Node, key, val int64, r *node.Node) *node.Node {
	t.Helper()
	x := seeHeavy(t, l, key, val, r)
	want := slices.Concat(pairsOf(l), []api.Pair{{Key: key, Val: val}}, pairsOf(r))
	if got := pairsOf(x); !slices.Equal(got, want) {
		t.Errorf("the join has the pairs %v, not %v", got, want)
	}
	return x
}

// seeBoth fails the test, unless two trees are joined well with either one on the left, keys that rise and such as do not.
func seeBoth(t *testing.T, a, b *node.Node) {
	t.Helper()
	for range 2 {
		l, r := rising(a, 1), rising(b, a.Size()+2)
		seeJoin(t, l, int64(a.Size())+1, 9, r)
		seeJoin(t, shuffled(a), numberAt(a.Size()), numberAt(b.Size()), shuffled(b))
		a, b = b, a
	}
}
