package sound_test

import (
	"math"
	"slices"
	"testing"

	"joinery/api"
	"joinery/node"
	"joinery/order"
	"joinery/sound"
)

// orders are all that there are.
func orders() []uint8 {
	return []uint8{api.OrUp, api.OrDown, api.OrSize, api.OrBits, api.OrEven, api.OrLow, api.OrMix}
}

// strangers are numbers that are no order's.
func strangers() []uint8 { return []uint8{0, api.Orders + 1, api.Orders + 2, 64, 127, 128, 254, 255} }

// numbers are keys and values: the least and the greatest, those around 0, others of either sign; they rise in no order.
func numbers() []int64 {
	return []int64{
		7, math.MinInt64, -1, math.MaxInt64, 0, -1 << 62, 1, math.MaxInt64 - 1, -9, 10,
		-10, 1 << 32, math.MinInt64 + 1, 99, 1 << 62, 2, -2, -1 << 32,
	}
}

// numberAt is one for each place, which goes round.
func numberAt(place int) int64 { return numbers()[place%len(numbers())] }

// rising are keys, put as they rise in an order.
func rising(o uint8, keys []int64) []int64 {
	l := slices.Clone(keys)
	slices.SortFunc(l, func(a, b int64) int { return order.Compare(o, a, b) })
	return l
}

// leaf is a node of two empty trees.
func leaf(key int64) *node.Node { return node.New(nil, key, 0, 0, nil) }

// over is a node of a key over two trees.
func over(l *node.Node, key int64, r *node.Node) *node.Node { return node.New(l, key, 0, 0, r) }

// shapes are all trees that there may be of so many nodes, of which only the shape counts.
func shapes(count int) []*node.Node {
	if count == 0 {
		return []*node.Node{nil}
	}
	var all []*node.Node
	for left := range count {
		for _, l := range shapes(left) {
			for _, r := range shapes(count - 1 - left) {
				all = append(all, over(l, 0, r))
			}
		}
	}
	return all
}

// smallShapes are all trees of so many nodes at most.
func smallShapes(most int) []*node.Node {
	var l []*node.Node
	for count := range most + 1 {
		l = append(l, shapes(count)...)
	}
	return l
}

// planted is a tree of that shape, which has these keys from left to right; values and tags are of any kind.
func planted(shape *node.Node, keys []int64) *node.Node {
	if shape == nil {
		return nil
	}
	left := shape.Left().Size()
	l, r := planted(shape.Left(), keys[:left]), planted(shape.Right(), keys[left+1:])
	return node.New(l, keys[left], numberAt(len(keys)), uint64(left), r)
}

// keysOf are a tree's keys from left to right.
func keysOf(t *node.Node) []int64 {
	if t == nil {
		return nil
	}
	return append(append(keysOf(t.Left()), t.Key()), keysOf(t.Right())...)
}

// doRise tells whether each of these keys stands ahead of the next one.
func doRise(o uint8, keys []int64) bool {
	for k := 1; k < len(keys); k++ {
		if order.Compare(o, keys[k-1], keys[k]) >= 0 {
			return false
		}
	}
	return true
}

// limit is a bound, by the chapter's words: a key that one has to stand ahead of, or behind.
type limit struct {
	key   int64
	ahead bool
}

// bead is what is to be known of one: its key, and all its bounds.
type bead struct {
	key    int64
	limits []limit
}

// beadsOf are a tree's beads, the node's own, those of what is left, those of what is right, below these bounds.
func beadsOf(t *node.Node, limits []limit) []bead {
	if t == nil {
		return nil
	}
	l := []bead{{t.Key(), limits}}
	l = append(l, beadsOf(t.Left(), append(slices.Clone(limits), limit{t.Key(), true}))...)
	return append(l, beadsOf(t.Right(), append(slices.Clone(limits), limit{t.Key(), false}))...)
}

// wrongs are the places of all nodes that are wrong, each held against every node above it.
func wrongs(o uint8, t *node.Node) []int {
	var l []int
	for place, b := range beadsOf(t, nil) {
		if slices.ContainsFunc(b.limits, func(x limit) bool {
			if x.ahead {
				return order.Compare(o, b.key, x.key) >= 0
			}
			return order.Compare(o, b.key, x.key) <= 0
		}) {
			l = append(l, place)
		}
	}
	return l
}

// chance is a row of numbers that is the same in each run.
type chance uint64

// below is a number from 0 to most - 1.
func (c *chance) below(most int) int {
	*c = *c*6364136223846793005 + 1442695040888963407
	return int(uint64(*c) >> 33 % uint64(most))
}

// shape is a tree of so many nodes, of any shape.
func (c *chance) shape(count int) *node.Node {
	if count == 0 {
		return nil
	}
	left := c.below(count)
	return over(c.shape(left), 0, c.shape(count-1-left))
}

// keys are so many keys, each once, of all sizes and signs.
func (c *chance) keys(count int) []int64 {
	been := map[int64]bool{}
	var l []int64
	for len(l) < count {
		key := int64(c.below(1<<31))<<33 ^ int64(c.below(1<<31))
		if c.below(2) == 0 {
			key = int64(c.below(200)) - 100
		}
		if !been[key] {
			been[key] = true
			l = append(l, key)
		}
	}
	return l
}

// twins is a tree in which each node has the same tree on both its sides, so high, whose keys are the lesser the lower they lie.
func twins(high int) *node.Node {
	var t *node.Node
	for k := range high {
		t = node.New(t, int64(k), math.MaxInt64-int64(k), uint64(k), t)
	}
	return t
}

// The ways that a deep tree goes.
const (
	leftward = iota
	rightward
	inward
	ways
)

// deepTree is a sound tree of these keys, which rise, as deep as they are many: its root is the last one, the first one, or, going inward, the first, the last, the second, and so on.
func deepTree(way int, keys []int64) *node.Node {
	// The keys from the root on, and whether what is below each lies on its left.
	var row []int64
	var left []bool
	for lo, hi := 0, len(keys)-1; lo <= hi; {
		takeLast := way == leftward || way == inward && len(row)%2 == 1
		if takeLast {
			row, hi = append(row, keys[hi]), hi-1
		} else {
			row, lo = append(row, keys[lo]), lo+1
		}
		left = append(left, takeLast)
	}
	var t *node.Node
	for k := len(row) - 1; k >= 0; k-- {
		if left[k] {
			t = over(t, row[k], nil)
		} else {
			t = over(nil, row[k], t)
		}
	}
	return t
}

// seeSound fails the test, unless a tree is sound.
func seeSound(t *testing.T, o uint8, x *node.Node) {
	t.Helper()
	if at, e := sound.Check(o, x); at != x.Size() || e != api.OK {
		t.Errorf("by %s: %d, %v of a sound tree of %d", order.Name(o), at, e, x.Size())
	}
}

// seeWrong fails the test, unless a tree's first wrong node stands at that place.
func seeWrong(t *testing.T, o uint8, x *node.Node, place int) {
	t.Helper()
	if at, e := sound.Check(o, x); at != place || e != api.ErrOrder {
		t.Errorf("by %s: %d, %v of a tree of %d whose first wrong node is at %d", order.Name(o), at, e, x.Size(), place)
	}
}

// seeAhead fails the test, unless Ahead tells that of two trees.
func seeAhead(t *testing.T, o uint8, a, b *node.Node, want bool) {
	t.Helper()
	if got := sound.Ahead(o, a, b); got != want {
		t.Errorf("by %s: Ahead of trees of %d and %d is %t", order.Name(o), a.Size(), b.Size(), got)
	}
}
