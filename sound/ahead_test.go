package sound_test

import (
	"math"
	"runtime/debug"
	"slices"
	"testing"

	"joinery/api"
	"joinery/node"
	"joinery/order"
)

// TestAheadOfEmpty (P12.2): an empty tree stands ahead of every sound one, and behind it, and of another empty one, in every order; of one that is not sound it does not.
func TestAheadOfEmpty(t *testing.T) {
	for _, o := range orders() {
		seeAhead(t, o, nil, nil, true)
		keys := rising(o, numbers())
		for _, shape := range smallShapes(5) {
			x := planted(shape, keys[:shape.Size()])
			seeAhead(t, o, nil, x, true)
			seeAhead(t, o, x, nil, true)
			if n := shape.Size(); n > 1 {
				x = planted(shape, append([]int64{keys[n-1]}, keys[:n-1]...))
				seeAhead(t, o, nil, x, false)
				seeAhead(t, o, x, nil, false)
			}
		}
	}
}

// TestAheadOfNoOrder (P12.2): no tree stands ahead of another one in an order that there is not, no empty one, either.
func TestAheadOfNoOrder(t *testing.T) {
	trees := []*node.Node{nil, leaf(0), leaf(1), over(leaf(2), 3, leaf(4)), over(leaf(4), 3, leaf(2)), twins(70)}
	for _, o := range strangers() {
		for _, a := range trees {
			for _, b := range trees {
				seeAhead(t, o, a, b, false)
			}
		}
	}
}

// TestAheadOfUnsound (P12.2): one tree of two is not sound, the first one or the second one, whatever its ends are.
func TestAheadOfUnsound(t *testing.T) {
	low, high := over(leaf(1), 2, leaf(3)), over(leaf(11), 12, leaf(13))
	seeAhead(t, api.OrUp, low, high, true)
	for _, bad := range []*node.Node{
		over(leaf(2), 1, leaf(3)), over(leaf(1), 3, leaf(2)), over(leaf(2), 2, nil), over(leaf(1), 2, leaf(1)),
		over(over(leaf(1), 2, leaf(6)), 5, leaf(7)), over(leaf(1), 5, over(leaf(4), 6, leaf(7))), over(leaf(1), 50, leaf(3)), over(leaf(1), -50, leaf(3)),
	} {
		seeAhead(t, api.OrUp, bad, high, false)
		seeAhead(t, api.OrUp, high, bad, false)
		seeAhead(t, api.OrUp, bad, leaf(100), false)
		seeAhead(t, api.OrUp, leaf(-100), bad, false)
		seeAhead(t, api.OrUp, bad, bad, false)
	}
	seeAhead(t, api.OrDown, low, high, false)
	seeAhead(t, api.OrDown, high, low, false)
}

// TestAheadOfTwo (P12.2): sound trees of all small shapes: one ahead of the other one, turned about, next to each other, with a key that both have, and interleaved, in every order.
func TestAheadOfTwo(t *testing.T) {
	shapes := smallShapes(3)[1:]
	for _, o := range orders() {
		keys := rising(o, numbers())
		for _, first := range shapes {
			for _, second := range shapes {
				n, m := first.Size(), second.Size()
				a := planted(first, keys[:n])
				for _, from := range []int{n, n + 1, len(keys) - m} {
					b := planted(second, keys[from:from+m])
					seeAhead(t, o, a, b, true)
					seeAhead(t, o, b, a, false)
				}
				// The last key of one is the first one of the other.
				b := planted(second, keys[n-1:n-1+m])
				seeAhead(t, o, a, b, false)
				seeAhead(t, o, b, a, false)
				// One stands between keys of the other.
				ends := planted(over(leaf(0), 0, nil), []int64{keys[0], keys[m+1]})
				between := planted(second, keys[1:m+1])
				seeAhead(t, o, ends, between, false)
				seeAhead(t, o, between, ends, false)
			}
		}
	}
}

// TestAheadOfItself (P12.2): no tree but the empty one stands ahead of itself.
func TestAheadOfItself(t *testing.T) {
	for _, o := range orders() {
		keys := rising(o, numbers())
		for _, shape := range smallShapes(5)[1:] {
			x := planted(shape, keys[:shape.Size()])
			seeAhead(t, o, x, x, false)
		}
	}
}

// TestAheadInterleaved (P12.2): keys of two trees that stand by turns, with either tree's ends outermost.
func TestAheadInterleaved(t *testing.T) {
	for _, c := range []struct{ a, b *node.Node }{
		{over(leaf(1), 3, leaf(5)), over(leaf(2), 4, leaf(6))},
		{over(leaf(1), 3, leaf(5)), over(leaf(2), 4, nil)},
		{over(leaf(1), 2, leaf(5)), over(leaf(4), 6, leaf(7))},
		{over(leaf(1), 2, leaf(3)), over(leaf(3), 4, leaf(5))},
		{over(leaf(1), 9, nil), leaf(5)},
		{over(nil, 1, leaf(9)), leaf(5)},
	} {
		for _, o := range []uint8{api.OrUp, api.OrDown} {
			seeAhead(t, o, c.a, c.b, false)
			seeAhead(t, o, c.b, c.a, false)
		}
	}
}

// TestAheadEdges (P12.2): the least and the greatest of all keys are held against each other as any are.
func TestAheadEdges(t *testing.T) {
	for _, o := range orders() {
		for _, a := range numbers() {
			for _, b := range numbers() {
				seeAhead(t, o, leaf(a), leaf(b), order.Compare(o, a, b) < 0)
			}
		}
	}
	low, high := over(leaf(math.MinInt64), -1, leaf(0)), over(nil, 1, leaf(math.MaxInt64))
	seeAhead(t, api.OrUp, low, high, true)
	seeAhead(t, api.OrUp, high, low, false)
	seeAhead(t, api.OrDown, high, low, false)
}

// isAhead tells it by the chapter's words: each key is held against each.
func isAhead(o uint8, a, b *node.Node) bool {
	for _, x := range keysOf(a) {
		for _, y := range keysOf(b) {
			if order.Compare(o, x, y) >= 0 {
				return false
			}
		}
	}
	return len(wrongs(o, a)) == 0 && len(wrongs(o, b)) == 0
}

// TestAheadOfAny (P12.2): all pairs of small trees of a few keys, sound and not.
func TestAheadOfAny(t *testing.T) {
	var trees []*node.Node
	for _, shape := range smallShapes(2) {
		for _, keys := range keyRows(shape.Size()) {
			trees = append(trees, planted(shape, keys))
		}
	}
	for _, o := range orders() {
		for _, a := range trees {
			for _, b := range trees {
				seeAhead(t, o, a, b, isAhead(o, a, b))
			}
		}
	}
}

// TestAheadOfDrawn (P12.2): trees of any shape and size, cut out of one row of keys, with gaps and overlaps, a key of which may have changed.
func TestAheadOfDrawn(t *testing.T) {
	c := chance(21)
	been := map[bool]int{}
	for round := range 2000 {
		o := orders()[round%api.Orders]
		keys := rising(o, c.keys(30))
		n, gap, m := c.below(15), c.below(4)-1, c.below(12)
		from := max(0, n+gap)
		first, second := slices.Clone(keys[:n]), slices.Clone(keys[from:from+m])
		if n > 0 && c.below(3) == 0 {
			first[c.below(n)] = keys[c.below(30)]
		}
		a, b := planted(c.shape(n), first), planted(c.shape(m), second)
		want := isAhead(o, a, b)
		been[want]++
		seeAhead(t, o, a, b, want)
		seeAhead(t, o, b, a, isAhead(o, b, a))
	}
	if been[true] < 100 || been[false] < 100 {
		t.Errorf("the test's own trees: %v", been)
	}
}

// TestAheadOfDeep (R1, P12.2): deep trees, whose ends lie at their bottom, or at their root.
func TestAheadOfDeep(t *testing.T) {
	const deep = 50_000
	defer debug.SetMaxStack(debug.SetMaxStack(1 << 18))
	keys := rowOf(api.OrEven, 2*deep)
	for first := range ways {
		for second := range ways {
			a, b := deepTree(first, keys[:deep]), deepTree(second, keys[deep:])
			seeAhead(t, api.OrEven, a, b, true)
			seeAhead(t, api.OrEven, b, a, false)
			seeAhead(t, api.OrEven, deepTree(first, keys[:deep+1]), b, false)
		}
	}
	for _, high := range []int{63, 64, 300} {
		seeAhead(t, api.OrUp, twins(high), leaf(1000), false)
		seeAhead(t, api.OrUp, leaf(-1000), twins(high), false)
	}
}
