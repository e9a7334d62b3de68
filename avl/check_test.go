package avl_test

import (
	"runtime/debug"
	"testing"

	"joinery/api"
	"joinery/avl"
	"joinery/node"
)

// TestCheckEmpty (P14.2): the empty tree may be, and has no nodes.
func TestCheckEmpty(t *testing.T) { seeCheck(t, nil, 0, api.OK) }

// TestCheckMay (P14.2): of trees that may be, how many nodes there are.
func TestCheckMay(t *testing.T) {
	a, b := leaf(), leaf()
	for _, c := range []struct {
		x    *node.Node
		have int
	}{
		{a, 1}, {made(a, nil), 2}, {made(nil, a), 2}, {made(a, b), 3}, {made(made(a, nil), b), 4}, {made(a, made(nil, b)), 4},
		{tagged(1), 1}, {over(tagged(1), 2, nil), 2}, {over(nil, 2, tagged(1)), 2}, {over(tagged(1), 2, tagged(1)), 3},
		{over(over(tagged(1), 2, nil), 3, tagged(1)), 4}, {over(over(nil, 2, tagged(1)), 3, over(tagged(1), 2, nil)), 5},
		{full(6), 63}, {lean(6, leftHigh), 20}, {lean(6, rightHigh), 20}, {made(full(5), lean(6, turnsHigh)), 52},
	} {
		seeCheck(t, c.x, c.have, api.OK)
	}
}

// TestCheckLeaf (P14.2): over two empty trees each tag but 1 is wrong.
func TestCheckLeaf(t *testing.T) {
	for _, tag := range tags() {
		if tag != 1 {
			seeCheck(t, tagged(tag), 0, api.ErrTag)
		}
	}
}

// TestCheckRoot (P14.2): a root that is wrong, whatever is below it: its tag, its balance, on either side, and both at once.
func TestCheckRoot(t *testing.T) {
	for _, c := range []struct {
		left, right int
		tag         uint64
		want        api.Errno
	}{
		{1, 1, 1, api.ErrTag}, {1, 1, 3, api.ErrTag}, {1, 1, 0, api.ErrTag}, {1, 1, top, api.ErrTag},
		{1, 2, 2, api.ErrTag}, {2, 1, 2, api.ErrTag}, {1, 2, 4, api.ErrTag}, {2, 1, 4, api.ErrTag},
		{0, 1, 1, api.ErrTag}, {1, 0, 1, api.ErrTag}, {0, 1, 3, api.ErrTag}, {1, 0, 3, api.ErrTag},
		{0, 2, 3, api.ErrTree}, {2, 0, 3, api.ErrTree}, {1, 3, 4, api.ErrTree}, {3, 1, 4, api.ErrTree}, {0, 5, 6, api.ErrTree}, {5, 0, 6, api.ErrTree},
		{0, 2, 2, api.ErrTag}, {2, 0, 2, api.ErrTag}, {0, 2, 1, api.ErrTag}, {2, 0, 1, api.ErrTag}, {1, 5, 2, api.ErrTag}, {5, 1, 2, api.ErrTag},
		{0, 3, 5, api.ErrTag}, {3, 0, 0, api.ErrTag}, {4, 1, top, api.ErrTag},
	} {
		seeCheck(t, over(full(c.left), c.tag, full(c.right)), 0, c.want)
		seeCheck(t, over(lean(c.left, leftHigh), c.tag, lean(c.right, rightHigh)), 0, c.want)
	}
}

// TestCheckRound (P14.2): 0 is one more than no tag: a node of the tag 0 is not well tagged, not over the greatest tag either, though Make makes it so.
func TestCheckRound(t *testing.T) {
	most := tagged(top)
	for _, other := range []*node.Node{nil, tagged(0), leaf(), full(5), tagged(1 << 63), tagged(top - 2), tagged(top - 1), most} {
		for _, tag := range []uint64{0, 1, 2, top - 1, top} {
			seeCheck(t, over(most, tag, other), 0, api.ErrTag)
			seeCheck(t, over(other, tag, most), 0, api.ErrTag)
		}
		seeCheck(t, made(most, other), 0, api.ErrTag)
		seeCheck(t, made(other, most), 0, api.ErrTag)
		// The root is well tagged, and even; what is left of it, or right of it, is of the tag 0.
		seeCheck(t, over(made(most, other), 1, nil), 1, api.ErrTag)
		seeCheck(t, over(nil, 1, made(other, most)), 1, api.ErrTag)
		seeCheck(t, over(full(1), 2, made(other, most)), 2, api.ErrTag)
	}
	seeCheck(t, over(tagged(top-1), 0, tagged(top-1)), 0, api.ErrTag)
	seeCheck(t, over(nil, 0, nil), 0, api.ErrTag)
	seeCheck(t, over(leaf(), 0, leaf()), 0, api.ErrTag)
	// The greatest tag is one more than the one below it.
	seeCheck(t, over(tagged(top-1), top, tagged(top-1)), 1, api.ErrTag)
	seeCheck(t, over(tagged(top-2), top, tagged(top-1)), 1, api.ErrTag)
	seeCheck(t, over(tagged(top-1), top, nil), 0, api.ErrTree)
	seeCheck(t, over(nil, top, tagged(top-1)), 0, api.ErrTree)
}

// TestCheckGaps (P14.2): a root over two sides of any tags, the tag of which is one more than the greater one's, modulo 2^64: where that is 0, it is not well tagged; else it is even, if these differ by 1 at most, and then the left one is the first that is wrong.
func TestCheckGaps(t *testing.T) {
	for _, c := range []struct {
		low, high uint64
		at        int
		want      api.Errno
	}{
		{9, 9, 1, api.ErrTag}, {9, 10, 1, api.ErrTag}, {9, 11, 0, api.ErrTree}, {9, 12, 0, api.ErrTree}, {9, 1 << 40, 0, api.ErrTree},
		{0, 0, 1, api.ErrTag}, {0, 2, 0, api.ErrTree}, {0, 1<<63 - 1, 0, api.ErrTree}, {0, 1 << 63, 0, api.ErrTree}, {0, 1<<63 + 1, 0, api.ErrTree},
		{0, top - 1, 0, api.ErrTree}, {2, top - 1, 0, api.ErrTree}, {1<<63 - 1, 1 << 63, 1, api.ErrTag},
		{1<<63 - 1, 1<<63 + 1, 0, api.ErrTree}, {1<<63 - 1, top - 1, 0, api.ErrTree}, {1 << 63, top - 1, 0, api.ErrTree},
		{top - 2, top - 1, 1, api.ErrTag}, {top - 3, top - 1, 0, api.ErrTree}, {top - 1, top - 1, 1, api.ErrTag},
		{0, top, 0, api.ErrTag}, {2, top, 0, api.ErrTag}, {1 << 63, top, 0, api.ErrTag}, {top - 2, top, 0, api.ErrTag}, {top - 1, top, 0, api.ErrTag}, {top, top, 0, api.ErrTag},
	} {
		low, high := tagged(c.low), tagged(c.high)
		seeCheck(t, over(low, c.high+1, high), c.at, c.want)
		seeCheck(t, over(high, c.high+1, low), c.at, c.want)
	}
}

// TestCheckPlaces (P14.2): the place of what is wrong: the first one of the beads, the last one, one on the left, one on the right, one deep down.
func TestCheckPlaces(t *testing.T) {
	steep := made(made(leaf(), nil), nil)
	short := over(leaf(), 1, leaf())
	for _, c := range []struct {
		x    *node.Node
		at   int
		want api.Errno
	}{
		{over(full(3), 5, full(3)), 0, api.ErrTag},
		{made(steep, full(3)), 1, api.ErrTree},
		{made(full(3), steep), 8, api.ErrTree},
		{made(short, leaf()), 1, api.ErrTag},
		{made(leaf(), short), 2, api.ErrTag},
		{made(tagged(2), made(leaf(), nil)), 1, api.ErrTag},
		{made(full(2), made(leaf(), tagged(2))), 6, api.ErrTag},
		{made(full(2), made(made(leaf(), nil), tagged(2))), 7, api.ErrTag},
		{made(full(2), made(leaf(), tagged(0))), 6, api.ErrTag},
		{made(made(leaf(), made(nil, tagged(0))), full(3)), 4, api.ErrTag},
		{made(full(4), made(made(full(2), steep), full(4))), 21, api.ErrTree},
		{made(made(made(steep, full(3)), full(4)), full(5)), 3, api.ErrTree},
		{made(full(5), made(full(4), made(full(3), steep))), 56, api.ErrTree},
	} {
		seeCheck(t, c.x, c.at, c.want)
	}
}

// TestCheckFirst (P14.2): of several that are wrong the first one of the beads is told: a node ahead of what is below it, what is left ahead of what is right, whatever the keys are and whatever is wrong.
func TestCheckFirst(t *testing.T) {
	steep := made(nil, made(nil, leaf()))
	for _, c := range []struct {
		x    *node.Node
		at   int
		want api.Errno
	}{
		{over(steep, 9, steep), 0, api.ErrTag},
		{over(steep, 4, tagged(0)), 0, api.ErrTree},
		{over(tagged(7), 8, steep), 0, api.ErrTree},
		{over(tagged(2), 4, steep), 1, api.ErrTag},
		{over(steep, 4, tagged(2)), 1, api.ErrTree},
		{over(full(2), 4, over(tagged(5), 3, steep)), 4, api.ErrTag},
		{over(full(3), 4, over(tagged(5), 6, steep)), 0, api.ErrTag},
		{over(over(leaf(), 3, tagged(2)), 4, over(tagged(0), 3, tagged(2))), 3, api.ErrTag},
		{over(over(tagged(2), 3, tagged(2)), 4, tagged(2)), 2, api.ErrTag},
	} {
		seeCheck(t, c.x, c.at, c.want)
	}
}

// TestCheckKeys (P14.2): keys and values are not asked for: they need not rise, may stand twice, be of any size.
func TestCheckKeys(t *testing.T) {
	for _, shape := range smallShapes(6) {
		place := 0
		var planted func(s *node.Node) *node.Node
		planted = func(s *node.Node) *node.Node {
			if s == nil {
				return nil
			}
			place++
			key := place
			return avl.Make(planted(s.Left()), numberAt(key), numberAt(key/2), planted(s.Right()))
		}
		seeByWords(t, planted(shape))
	}
}

// TestCheckSmall (P14.2): all trees of up to 9 nodes, whose nodes are well tagged.
func TestCheckSmall(t *testing.T) {
	for _, x := range smallShapes(9) {
		seeByWords(t, x)
		if avl.May(x) != isBalanced(x) {
			t.Errorf("May of a tree of %d, the height %d, is %t", x.Size(), heightOf(x), avl.May(x))
		}
	}
}

// smallTagged are all trees of so many nodes, with these tags on any node.
func smallTagged(count int, some []uint64) []*node.Node {
	if count == 0 {
		return []*node.Node{nil}
	}
	var all []*node.Node
	for left := range count {
		for _, l := range smallTagged(left, some) {
			for _, r := range smallTagged(count-1-left, some) {
				for _, tag := range some {
					all = append(all, over(l, tag, r))
				}
			}
		}
	}
	return all
}

// TestCheckSmallTags (P14.2): all trees of up to 4 nodes, with any small tags, the greatest ones among them.
func TestCheckSmallTags(t *testing.T) {
	for count := range 5 {
		for _, x := range smallTagged(count, []uint64{0, 1, 2, 3, 4, top}) {
			seeByWords(t, x)
		}
	}
	for _, x := range smallTagged(3, tags()[:12]) {
		seeByWords(t, x)
	}
}

// TestCheckSpoilt (P14.2): trees of any shape that may be, some tags of which are others.
func TestCheckSpoilt(t *testing.T) {
	c := chance(1)
	wrong := map[api.Errno]int{}
	for range 3000 {
		x := c.spoilt(c.balanced(c.below(8)), 1+c.below(60))
		seeByWords(t, x)
		_, e := avl.Check(x)
		wrong[e]++
	}
	if wrong[api.OK] < 100 || wrong[api.ErrTag] < 100 {
		t.Errorf("the test's own trees are of one kind: %v", wrong)
	}
}

// TestCheckTwice (P14.2): a node that stands in a tree twice counts twice, where it is passed on the way, too; where it is wrong, its first place is told.
func TestCheckTwice(t *testing.T) {
	a := leaf()
	x := made(a, made(nil, a))
	seeCheck(t, made(a, a), 3, api.OK)
	seeCheck(t, made(x, x), 9, api.OK)
	seeCheck(t, made(made(x, x), made(a, made(a, a))), 15, api.OK)
	bad, steep := tagged(3), made(made(a, nil), nil)
	seeCheck(t, made(bad, bad), 1, api.ErrTag)
	seeCheck(t, made(full(3), made(made(a, a), bad)), 12, api.ErrTag)
	seeCheck(t, made(full(4), made(full(3), made(bad, bad))), 25, api.ErrTag)
	seeCheck(t, made(full(4), made(made(bad, bad), full(3))), 18, api.ErrTag)
	seeCheck(t, made(x, steep), 5, api.ErrTree)
	seeCheck(t, made(made(x, x), made(x, steep)), 15, api.ErrTree)
	seeCheck(t, made(made(x, x), made(steep, steep)), 11, api.ErrTree)
}

// TestCheckGrove (P14.2): trees that are made of any that there are, many of whose nodes stand in them often.
func TestCheckGrove(t *testing.T) {
	c := chance(2)
	several := 0
	for range 60 {
		for _, x := range c.grove(60) {
			seeByWords(t, x)
			if l := faultsOf(x); len(l) > 1 && l[0] > 1 {
				several++
			}
		}
	}
	if several < 100 {
		t.Errorf("of the test's own trees %d have several nodes that are wrong, the first one deep down", several)
	}
}

// TestCheckManyPlaces (R1, P14.2): trees whose nodes stand in more places than could be gone over.
func TestCheckManyPlaces(t *testing.T) {
	for high := range 63 {
		x := twins(high)
		seeCheck(t, x, 1<<high-1, api.OK)
		if high < 3 {
			continue
		}
		seeCheck(t, made(x, nil), 0, api.ErrTree)
		bad := over(x.Left(), uint64(high)+1, x.Left())
		seeCheck(t, made(bad, x), 1, api.ErrTag)
		seeCheck(t, made(x, bad), 1<<high, api.ErrTag)
		steep := made(x.Left(), x.Left().Left().Left())
		seeCheck(t, over(x.Left(), uint64(high)+1, steep), 1<<(high-1), api.ErrTree)
	}
	for side := range leans {
		for high := range 80 {
			seeCheck(t, leanTwins(high, side), fib(high+2)-1, api.OK)
		}
	}
}

// TestCheckDeep (R1, P14.2): trees that are as deep as they have nodes need no memory of calls for each of them.
func TestCheckDeep(t *testing.T) {
	const deep = 200_000
	defer debug.SetMaxStack(debug.SetMaxStack(1 << 18))
	for way := range ways {
		seeCheck(t, deepOver(nil, deep, way), 0, api.ErrTree)
		seeCheck(t, deepOver(full(3), deep, way), 0, api.ErrTree)
	}
	// Far below there is the first node that is wrong: each one above it is even, and another one, on its right, is wrong as well.
	for _, tag := range []uint64{0, 2, 1 << 63, top - deep - 1} {
		x := tagged(tag)
		for range deep {
			x = made(x, tagged(x.Tag()))
		}
		seeCheck(t, x, deep, api.ErrTag)
		seeCheck(t, made(x, x), deep+1, api.ErrTag)
		seeCheck(t, over(x, 9, x), 0, api.ErrTag)
	}
}

// TestCheckDeepTwins (R1): trees that are as deep as they have nodes, and have more places than an int can tell: where the last one alone is wrong, and where none is.
func TestCheckDeepTwins(t *testing.T) {
	const deep = 20_000
	defer debug.SetMaxStack(debug.SetMaxStack(1 << 18))
	if !avl.May(twins(deep)) {
		t.Error("twins may not be")
	}
	var side *node.Node
	x := tagged(0)
	for range deep {
		x, side = made(side, x), made(side, side)
	}
	if _, e := avl.Check(x); e != api.ErrTag {
		t.Errorf("Check of a tree whose last bead is wrong: %v", e)
	}
}
