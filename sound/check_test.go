package sound_test

import (
	"math"
	"runtime/debug"
	"slices"
	"testing"

	"joinery/api"
	"joinery/node"
	"joinery/order"
	"joinery/sound"
)

// TestExample (P12.1): the chapter's own.
func TestExample(t *testing.T) {
	x := over(leaf(3), 2, nil)
	seeWrong(t, api.OrUp, x, 1)
	seeSound(t, api.OrDown, x)
}

// TestEmptyTree (P12.1): it is sound in every order, and has no nodes.
func TestEmptyTree(t *testing.T) {
	for _, o := range orders() {
		if at, e := sound.Check(o, nil); at != 0 || e != api.OK {
			t.Errorf("by %s: %d, %v", order.Name(o), at, e)
		}
	}
}

// TestOneNode (P12.1): a node alone has no bounds, whatever its key is, and its value and tag.
func TestOneNode(t *testing.T) {
	for _, o := range orders() {
		for _, key := range numbers() {
			for _, x := range []*node.Node{leaf(key), node.New(nil, key, math.MinInt64, math.MaxUint64, nil)} {
				if at, e := sound.Check(o, x); at != 1 || e != api.OK {
					t.Errorf("by %s, %d alone: %d, %v", order.Name(o), key, at, e)
				}
			}
		}
	}
}

// TestNoOrder (P12.1): ErrArg and 0, whatever the tree is: empty, sound, wrong, deep.
func TestNoOrder(t *testing.T) {
	trees := []*node.Node{
		nil, leaf(0), over(leaf(1), 2, leaf(3)), over(leaf(3), 2, leaf(1)), over(leaf(2), 2, leaf(2)),
		deepTree(leftward, rising(api.OrUp, numbers())), twins(5), twins(100),
	}
	for _, o := range strangers() {
		for _, x := range trees {
			if at, e := sound.Check(o, x); at != 0 || e != api.ErrArg {
				t.Errorf("by %d, of %d nodes: %d, %v", o, x.Size(), at, e)
			}
		}
	}
}

// TestSoundTrees (P12.1): trees of all small shapes, whose keys rise in an order: how many nodes there are, and OK.
func TestSoundTrees(t *testing.T) {
	for _, o := range orders() {
		keys := rising(o, numbers())
		for _, shape := range smallShapes(6) {
			for from := 0; from+shape.Size() <= len(keys); from++ {
				seeSound(t, o, planted(shape, keys[from:from+shape.Size()]))
			}
		}
	}
}

// TestUnlikeOrders (P12.1): a tree that is sound in one order is wrong in another one; each order has a tree that is sound in it alone.
func TestUnlikeOrders(t *testing.T) {
	keys := []int64{0, 1, -1, 2, 3, 1 << 32, math.MinInt64, math.MaxInt64}
	all := shapes(8)
	for _, o := range orders() {
		for _, shape := range []*node.Node{all[0], all[len(all)/2], all[len(all)-1]} {
			x := planted(shape, rising(o, keys))
			for _, other := range orders() {
				if other == o {
					seeSound(t, o, x)
				} else {
					seeWrong(t, other, x, wrongs(other, x)[0])
				}
			}
		}
	}
	x := over(over(leaf(0), 2, nil), 1, leaf(3))
	seeWrong(t, api.OrUp, x, 1)
	seeWrong(t, api.OrDown, x, 2)
	seeWrong(t, api.OrSize, x, 1)
	seeSound(t, api.OrEven, x)
}

// TestWrongChild (P12.1): a node that is wrong as a child of its parent, on each side.
func TestWrongChild(t *testing.T) {
	for _, c := range []struct {
		tree  *node.Node
		place int
	}{
		{over(leaf(6), 5, nil), 1},
		{over(nil, 5, leaf(4)), 1},
		{over(leaf(6), 5, leaf(7)), 1},
		{over(leaf(4), 5, leaf(4)), 2},
		{over(leaf(3), 5, leaf(4)), 2},
		{over(over(leaf(2), 1, nil), 9, nil), 2},
		{over(over(nil, 3, leaf(2)), 9, nil), 2},
		{over(nil, 0, over(leaf(6), 5, leaf(7))), 2},
		{over(nil, 0, over(leaf(4), 5, leaf(4))), 3},
		{over(over(leaf(1), 2, leaf(3)), 4, over(leaf(7), 6, leaf(8))), 5},
		{over(over(leaf(1), 2, leaf(3)), 4, over(leaf(5), 7, leaf(6))), 6},
	} {
		seeWrong(t, api.OrUp, c.tree, c.place)
	}
}

// TestWrongFurtherUp (P12.1): a node that is right below its parent, and wrong below a node further up, on either side, just above or far above.
func TestWrongFurtherUp(t *testing.T) {
	for _, c := range []struct {
		tree  *node.Node
		place int
	}{
		{over(over(nil, 2, leaf(5)), 4, nil), 2},
		{over(over(nil, 2, leaf(4)), 4, nil), 2},
		{over(nil, 4, over(leaf(3), 6, nil)), 2},
		{over(nil, 4, over(leaf(4), 6, nil)), 2},
		{over(over(leaf(1), 2, over(nil, 5, leaf(10))), 9, nil), 4},
		{over(over(leaf(1), 2, over(nil, 5, leaf(9))), 9, leaf(20)), 4},
		{over(over(nil, 2, over(nil, 3, over(nil, 4, over(nil, 5, leaf(10))))), 9, nil), 5},
		{over(nil, 1, over(over(over(over(leaf(0), 5, nil), 6, nil), 7, nil), 8, nil)), 5},
		{over(nil, 1, over(over(over(over(leaf(1), 5, nil), 6, nil), 7, nil), 8, nil)), 5},
		{over(over(nil, 1, over(leaf(0), 5, nil)), 9, nil), 3},
		{over(nil, 1, over(over(nil, 5, leaf(10)), 9, nil)), 3},
		{over(leaf(0), 1, over(over(over(nil, 3, leaf(6)), 5, nil), 9, nil)), 5},
		{over(over(over(nil, 1, over(nil, 2, leaf(6))), 4, nil), 8, nil), 4},
	} {
		seeWrong(t, api.OrUp, c.tree, c.place)
	}
}

// TestFirstOfTwo (P12.1): of two wrong nodes the first one is told among the beads, whichever has the lesser key, and whichever stands further left or lies deeper.
func TestFirstOfTwo(t *testing.T) {
	for _, c := range []struct {
		tree  *node.Node
		place int
		all   []int
	}{
		// The parent is told, not what lies on its left, which stands further left, and has the lesser key.
		{over(over(leaf(8), 7, nil), 4, leaf(9)), 1, []int{1, 2}},
		{over(over(leaf(5), 9, nil), 4, leaf(10)), 1, []int{1, 2}},
		// What is left is told ahead of what is right, though it lies deeper, and has the greater key.
		{over(over(nil, 2, leaf(30)), 4, leaf(3)), 2, []int{2, 3}},
		{over(over(leaf(29), 2, nil), 4, leaf(-5)), 2, []int{2, 3}},
		{over(leaf(9), 4, leaf(0)), 1, []int{1, 2}},
		{over(leaf(1), 4, over(leaf(0), 5, leaf(2))), 3, []int{3, 4}},
		{over(leaf(1), 4, over(leaf(9), 5, leaf(2))), 3, []int{3, 4}},
		{over(leaf(1), 4, over(over(leaf(4), 6, leaf(7)), 8, leaf(8))), 4, []int{4, 6}},
		{over(over(leaf(1), 5, leaf(3)), 4, leaf(2)), 1, []int{1, 3, 4}},
	} {
		if got := wrongs(api.OrUp, c.tree); !slices.Equal(got, c.all) {
			t.Errorf("the test's own tree has %v, not %v", got, c.all)
		}
		seeWrong(t, api.OrUp, c.tree, c.place)
	}
}

// TestWrongOnTheRight (P12.1): all that is left of the root is sound, of many nodes, and what is right of it is not.
func TestWrongOnTheRight(t *testing.T) {
	great := shapes(9)
	lefts := append(smallShapes(4), great[0], great[1000], great[4000])
	for _, o := range orders() {
		keys := rising(o, numbers())
		for _, left := range lefts {
			n := left.Size()
			l := planted(left, keys[:n])
			root, a, b, c := keys[n], keys[n+1], keys[n+2], keys[n+3]
			seeSound(t, o, over(l, root, over(leaf(a), b, leaf(c))))
			seeWrong(t, o, over(l, root, over(leaf(c), b, leaf(a))), n+2)
			seeWrong(t, o, over(l, root, over(leaf(a), b, leaf(a))), n+3)
			seeWrong(t, o, over(l, root, over(leaf(root), b, leaf(c))), n+2)
			seeWrong(t, o, over(l, root, over(nil, root, leaf(c))), n+1)
			if n > 0 {
				seeWrong(t, o, over(l, root, over(leaf(keys[0]), b, leaf(c))), n+2)
				seeWrong(t, o, over(l, root, over(leaf(a), keys[n-1], leaf(c))), n+1)
			}
		}
	}
}

// TestEqualKeys (P12.1): a key that stands twice, one above the other, far above it, or on both sides of a third one, is wrong in every order.
func TestEqualKeys(t *testing.T) {
	for _, o := range orders() {
		keys := rising(o, numbers())
		for k := range len(keys) - 2 {
			a, b, c := keys[k], keys[k+1], keys[k+2]
			seeWrong(t, o, over(leaf(b), b, nil), 1)
			seeWrong(t, o, over(nil, b, leaf(b)), 1)
			seeWrong(t, o, over(over(nil, a, leaf(b)), b, nil), 2)
			seeWrong(t, o, over(nil, b, over(leaf(b), c, nil)), 2)
			seeWrong(t, o, over(leaf(a), b, leaf(a)), 2)
			seeWrong(t, o, over(leaf(c), b, leaf(c)), 1)
			seeWrong(t, o, over(leaf(a), b, over(leaf(a), c, nil)), 3)
			seeWrong(t, o, over(over(leaf(a), b, nil), c, over(leaf(b), c, nil)), 3)
		}
	}
}

// TestEdgesOfKeys (P12.1): the least and the greatest of all keys, 0, and keys below it, held against each other by each order.
func TestEdgesOfKeys(t *testing.T) {
	low, high := leaf(math.MinInt64), leaf(math.MaxInt64)
	seeSound(t, api.OrUp, over(low, -1, high))
	seeSound(t, api.OrUp, over(low, 0, high))
	seeSound(t, api.OrDown, over(high, 0, low))
	seeWrong(t, api.OrUp, over(low, math.MinInt64, nil), 1)
	seeWrong(t, api.OrUp, over(nil, math.MaxInt64, high), 1)
	seeWrong(t, api.OrUp, over(high, math.MinInt64, nil), 1)
	seeWrong(t, api.OrUp, over(nil, math.MaxInt64, low), 1)
	seeSound(t, api.OrSize, over(over(leaf(0), -1, leaf(1)), math.MaxInt64, low))
	seeWrong(t, api.OrSize, over(leaf(1), -1, leaf(0)), 1)
	for _, o := range orders() {
		for _, a := range numbers() {
			for _, b := range numbers() {
				left, right := over(leaf(a), b, nil), over(nil, a, leaf(b))
				if order.Compare(o, a, b) < 0 {
					seeSound(t, o, left)
					seeSound(t, o, right)
				} else {
					seeWrong(t, o, left, 1)
					seeWrong(t, o, right, 1)
				}
			}
		}
	}
}

// keyRows are all rows of so many keys of a few, which may stand there again and again.
func keyRows(count int) [][]int64 {
	if count == 0 {
		return [][]int64{nil}
	}
	var l [][]int64
	for _, row := range keyRows(count - 1) {
		for _, key := range []int64{0, -1, math.MinInt64, 2} {
			l = append(l, append(slices.Clone(row), key))
		}
	}
	return l
}

// seeAny fails the test, unless a tree is told as the chapter's words have it.
func seeAny(t *testing.T, o uint8, x *node.Node) {
	t.Helper()
	if l := wrongs(o, x); len(l) > 0 {
		seeWrong(t, o, x, l[0])
	} else {
		seeSound(t, o, x)
	}
}

// TestAnyKeys (P12.1): all small trees of a few keys, each node held against every one above it.
func TestAnyKeys(t *testing.T) {
	for _, shape := range smallShapes(4) {
		for _, keys := range keyRows(shape.Size()) {
			x := planted(shape, keys)
			for _, o := range orders() {
				seeAny(t, o, x)
			}
		}
	}
}

// TestOneKeyOther (P12.1): sound trees of any shape, in which one key or two are others than they were.
func TestOneKeyOther(t *testing.T) {
	c := chance(12)
	for round := range 400 {
		o := orders()[round%api.Orders]
		count := 1 + c.below(60)
		keys, shape := rising(o, c.keys(count)), c.shape(count)
		seeSound(t, o, planted(shape, keys))
		for range 20 {
			other := slices.Clone(keys)
			for range 1 + c.below(2) {
				other[c.below(count)] = other[c.below(count)]
			}
			seeAny(t, o, planted(shape, other))
			k, m := c.below(count), c.below(count)
			other = slices.Clone(keys)
			other[k], other[m] = other[m], other[k]
			seeAny(t, o, planted(shape, other))
		}
	}
}

// rowOf are so many keys, as they rise in an order, far from each other.
func rowOf(o uint8, count int) []int64 {
	l := make([]int64, count)
	for k := range l {
		l[k], _ = order.Key(o, uint64(k)*(math.MaxUint64/uint64(count)))
	}
	return l
}

// TestDeepTrees (R1, P12.1): a tree that hangs on one side alone, or goes inward, of many nodes: sound, and with a wrong one at its bottom, which has to be held against the root, and needs no memory of calls for each node between.
func TestDeepTrees(t *testing.T) {
	const deep = 200_000
	defer debug.SetMaxStack(debug.SetMaxStack(1 << 18))
	for _, o := range orders() {
		keys := rowOf(o, deep)
		first, last := keys[0], keys[deep-1]
		for way := range ways {
			seeSound(t, o, deepTree(way, keys))
		}
		seeWrong(t, o, over(nil, first, deepTree(leftward, append([]int64{first}, keys[1:]...))), deep)
		seeWrong(t, o, over(deepTree(rightward, keys), last, nil), deep)
		middle := slices.Insert(slices.Clone(keys), deep/2, first)
		seeWrong(t, o, deepTree(inward, middle), deep)
		middle[deep/2] = last
		seeWrong(t, o, deepTree(inward, middle), deep)
	}
}

// TestDeepWithLeaves (R1, P12.1): a deep tree with something on each node's other side.
func TestDeepWithLeaves(t *testing.T) {
	const deep = 100_000
	defer debug.SetMaxStack(debug.SetMaxStack(1 << 18))
	var left, right *node.Node
	for k := range deep {
		at := int64(4 * k)
		left = over(left, at, leaf(at+2))
		right = over(leaf(-at-2), -at, right)
	}
	seeSound(t, api.OrUp, left)
	seeSound(t, api.OrUp, right)
	seeWrong(t, api.OrDown, left, 1)
	seeWrong(t, api.OrUp, over(left, 4*deep-2, nil), 2*deep)
	seeWrong(t, api.OrUp, over(nil, -4*deep+2, right), 2)
}

// TestShared (P12.1): a node that stands in a tree twice is wrong the second time at the latest; so trees that nobody could go over wholly are told at once.
func TestShared(t *testing.T) {
	for _, high := range []int{2, 3, 10, 40, 62, 63, 64, 65, 300} {
		x := twins(high)
		seeWrong(t, api.OrUp, x, high)
		seeWrong(t, api.OrDown, x, 1)
		seeWrong(t, api.OrUp, over(x, 1000, nil), high+1)
		seeWrong(t, api.OrUp, over(leaf(-9), -8, x), high+2)
		seeWrong(t, api.OrUp, over(x, -1, leaf(2000)), 1)
	}
	l := over(leaf(1), 2, leaf(3))
	seeWrong(t, api.OrUp, over(l, 4, l), 4)
	seeWrong(t, api.OrUp, over(l, 4, over(l, 6, nil)), 5)
	seeWrong(t, api.OrUp, over(over(l, 4, nil), 6, over(nil, 8, l)), 6)
}

// TestOneTreeInMany (P12.1): a tree may stand in others, in one of which it is right, and in another one wrong.
func TestOneTreeInMany(t *testing.T) {
	x := over(leaf(4), 5, leaf(6))
	seeSound(t, api.OrUp, over(x, 7, nil))
	seeSound(t, api.OrUp, over(nil, 3, x))
	seeSound(t, api.OrUp, over(over(nil, 3, x), 7, nil))
	seeWrong(t, api.OrUp, over(x, 6, nil), 3)
	seeWrong(t, api.OrUp, over(nil, 4, x), 2)
	seeWrong(t, api.OrUp, over(nil, 7, x), 1)
	seeSound(t, api.OrUp, x)
}
