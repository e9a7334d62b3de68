package rb_test

import (
	"runtime/debug"
	"testing"

	"joinery/api"
	"joinery/node"
	"joinery/rb"
)

// never and always tell which nodes of a deep tree are red, as second does.
func never(int) bool    { return false }
func always(int) bool   { return true }
func second(k int) bool { return k%2 == 1 }

// TestCheckEmpty (P16.2): the empty tree may be, and has no nodes.
func TestCheckEmpty(t *testing.T) { seeAll(t, nil, 0, api.OK, true) }

// TestCheckMay (P16.2): of trees that may be, how many nodes there are; a black node may have red sides, one or two.
func TestCheckMay(t *testing.T) {
	r, b := red(nil, nil), black(nil, nil)
	for _, c := range []struct {
		x    *node.Node
		have int
	}{
		{b, 1}, {black(r, nil), 2}, {black(nil, r), 2}, {black(r, red(nil, nil)), 3}, {black(r, r), 3}, {black(b, black(nil, nil)), 3}, {black(b, b), 3},
		{black(red(b, b), b), 5}, {black(b, red(b, b)), 5}, {black(red(b, b), red(b, b)), 7}, {black(black(r, nil), black(nil, r)), 5},
		{tagged(2), 1}, {over(tagged(1), 2, nil), 2}, {over(nil, 2, tagged(1)), 2}, {over(tagged(1), 2, tagged(1)), 3}, {over(tagged(2), 4, tagged(2)), 3},
		{over(over(tagged(2), 3, tagged(2)), 4, tagged(2)), 5}, {over(tagged(2), 4, over(tagged(2), 3, over(tagged(1), 2, nil))), 6},
		{full(6), 63}, {crowded(3), 63}, {crowded(4), 255}, {lean(6, leftHigh, full), 14}, {lean(7, rightHigh, full), 22}, {lean(8, turnsHigh, full), 30},
	} {
		seeAll(t, c.x, c.have, api.OK, true)
	}
}

// TestCheckRedPart (P16.2): a part that is red: 0 and ErrTree, whichever black height it has.
func TestCheckRedPart(t *testing.T) {
	c := chance(1)
	for high := range 7 {
		seeRedPart(t, red(full(high), full(high)))
		seeRedPart(t, red(crowded(high%4), crowded(high%4)))
		seeRedPart(t, red(twins(high), twins(high)))
		seeRedPart(t, red(c.blackPart(high, 2), c.blackPart(high, 3)))
	}
	seeRedPart(t, tagged(1))
	seeRedPart(t, over(tagged(2), 3, over(tagged(1), 2, tagged(1))))
}

// TestCheckLeaf (P16.2): over two empty trees each tag but 1 and 2 is wrong.
func TestCheckLeaf(t *testing.T) {
	for _, tag := range tags() {
		switch tag {
		case 1:
			seeRedPart(t, tagged(tag))
		case 2:
			seeMay(t, tagged(tag))
		default:
			seeFault(t, tagged(tag), 0, api.ErrTag)
		}
	}
}

// TestCheckRoot (P16.2): a root that is wrong over sides that are parts: its tag; or that its right side is lower, or higher, in black; or that it is red, as its left side is, its right one, or both; or several of these at once, of which its tag is told.
func TestCheckRoot(t *testing.T) {
	ember := func(high int) *node.Node { return red(full(high), full(high)) }
	for _, c := range []struct {
		l    *node.Node
		tag  uint64
		r    *node.Node
		want api.Errno
	}{
		{full(1), 0, full(1), api.ErrTag}, {full(1), 1, full(1), api.ErrTag}, {full(1), 2, full(1), api.ErrTag}, {full(1), 5, full(1), api.ErrTag}, {full(1), 6, full(1), api.ErrTag}, {full(1), top, full(1), api.ErrTag},
		{full(3), 6, full(3), api.ErrTag}, {full(3), 9, full(3), api.ErrTag}, {ember(1), 2, ember(1), api.ErrTag}, {ember(1), 5, ember(1), api.ErrTag},
		{full(2), 6, full(1), api.ErrTree}, {full(2), 6, full(3), api.ErrTree}, {full(2), 5, full(1), api.ErrTree}, {full(2), 5, full(3), api.ErrTree},
		{nil, 2, full(1), api.ErrTree}, {nil, 1, full(1), api.ErrTree}, {full(1), 4, nil, api.ErrTree}, {full(1), 3, nil, api.ErrTree}, {full(1), 4, ember(0), api.ErrTree}, {full(1), 3, ember(0), api.ErrTree},
		{nil, 2, full(5), api.ErrTree}, {full(5), 12, nil, api.ErrTree}, {ember(2), 6, full(3), api.ErrTree}, {full(3), 8, ember(2), api.ErrTree}, {ember(2), 6, ember(1), api.ErrTree}, {ember(1), 4, ember(2), api.ErrTree},
		{ember(1), 3, full(1), api.ErrTree}, {full(1), 3, ember(1), api.ErrTree}, {ember(1), 3, ember(1), api.ErrTree}, {ember(0), 1, nil, api.ErrTree}, {nil, 1, ember(0), api.ErrTree}, {ember(0), 1, ember(0), api.ErrTree},
		{ember(1), 3, full(2), api.ErrTree}, {full(2), 5, ember(1), api.ErrTree}, {ember(2), 5, ember(1), api.ErrTree},
		{full(2), 4, full(1), api.ErrTag}, {full(1), 6, full(2), api.ErrTag}, {full(1), 5, full(2), api.ErrTag}, {ember(1), 5, full(1), api.ErrTag}, {full(1), 1, ember(1), api.ErrTag}, {ember(1), 7, ember(1), api.ErrTag}, {ember(0), 0, ember(0), api.ErrTag},
	} {
		seeFault(t, over(c.l, c.tag, c.r), 0, c.want)
	}
	for high := range 4 {
		seeMay(t, black(ember(high), ember(high)))
		seeMay(t, black(ember(high), full(high)))
		seeMay(t, black(full(high), ember(high)))
	}
}

// TestCheckZero (P16.2): a node of the tag 0 is not well tagged, whatever lies on either side; not over the greatest tags either, though Make makes it so.
func TestCheckZero(t *testing.T) {
	for _, left := range tags() {
		for _, right := range tags() {
			x := over(tagged(left), 0, tagged(right))
			seeFault(t, x, 0, api.ErrTag)
			// What has the tag 0 is black, and 0 high: the node over it may be well tagged, and even.
			seeFault(t, over(x, 1, nil), 1, api.ErrTag)
			seeFault(t, over(nil, 2, x), 1, api.ErrTag)
		}
		seeFault(t, over(tagged(left), 0, nil), 0, api.ErrTag)
		seeFault(t, over(nil, 0, tagged(left)), 0, api.ErrTag)
	}
	for _, tag := range []uint64{top - 1, top} {
		seeFault(t, black(tagged(tag), tagged(tag)), 0, api.ErrTag)
		seeFault(t, black(tagged(tag), nil), 0, api.ErrTag)
	}
}

// TestCheckGreatest (P16.2): over a left side of the greatest black height there is one tag alone that a node may have, red's; and over others there are both.
func TestCheckGreatest(t *testing.T) {
	for _, tag := range tags() {
		for _, left := range []uint64{top - 1, top} {
			want, at := api.ErrTag, 0
			if tag == top && left == top-1 {
				at = 1
			} else if tag == top {
				want = api.ErrTree
			}
			seeFault(t, over(tagged(left), tag, tagged(left)), at, want)
		}
	}
	seeFault(t, over(tagged(top-1), top, tagged(top)), 0, api.ErrTree)
	seeFault(t, over(tagged(top), top, tagged(top-1)), 0, api.ErrTree)
	seeFault(t, over(tagged(top-1), top, nil), 0, api.ErrTree)
	seeFault(t, over(tagged(top-1), top, tagged(top-2)), 0, api.ErrTree)
	seeFault(t, over(tagged(top-2), top-1, tagged(top-3)), 1, api.ErrTag)
	seeFault(t, over(tagged(top-3), top-1, tagged(top-1)), 0, api.ErrTree)
	seeFault(t, over(tagged(top-3), top-2, tagged(top-3)), 1, api.ErrTag)
	seeFault(t, over(tagged(1<<63), 1<<63+2, tagged(1<<63+1)), 1, api.ErrTag)
	seeFault(t, over(tagged(1<<63), 1<<63+1, tagged(1<<63)), 1, api.ErrTag)
	seeFault(t, over(tagged(0), 2, tagged(1<<63)), 0, api.ErrTree)
}

// TestCheckSides (P16.2): a root of any tag, over sides of any two.
func TestCheckSides(t *testing.T) {
	for _, tag := range tags() {
		for _, left := range tags() {
			for _, right := range tags() {
				seeByWords(t, over(tagged(left), tag, tagged(right)))
			}
			seeByWords(t, over(tagged(left), tag, nil))
			seeByWords(t, over(nil, tag, tagged(left)))
		}
	}
}

// TestCheckPlaces (P16.2): the place of what is wrong: the first one of the beads, the last one, one on the left, one on the right, one deep down.
func TestCheckPlaces(t *testing.T) {
	pair, steep := red(red(nil, nil), nil), black(nil, full(1))
	for _, c := range []struct {
		x    *node.Node
		at   int
		want api.Errno
	}{
		{over(full(3), 9, full(3)), 0, api.ErrTag},
		{black(full(3), full(2)), 0, api.ErrTree},
		{black(tagged(3), full(1)), 1, api.ErrTag},
		{black(full(1), tagged(3)), 2, api.ErrTag},
		{black(pair, nil), 1, api.ErrTree},
		{black(nil, pair), 1, api.ErrTree},
		{black(red(nil, nil), pair), 2, api.ErrTree},
		{red(steep, full(1)), 1, api.ErrTree},
		{red(full(1), steep), 2, api.ErrTree},
		{black(black(full(1), steep), full(2)), 3, api.ErrTree},
		{black(red(full(2), full(2)), black(full(1), over(full(1), 2, full(1)))), 10, api.ErrTag},
		{black(full(3), black(full(2), tagged(4))), 12, api.ErrTag},
		{black(full(3), black(full(2), black(full(1), tagged(3)))), 14, api.ErrTag},
		{black(full(3), black(full(2), black(full(1), black(nil, pair)))), 15, api.ErrTree},
		{black(black(black(black(nil, pair), full(1)), full(2)), full(3)), 4, api.ErrTree},
		{black(black(black(tagged(3), full(1)), full(2)), full(3)), 3, api.ErrTag},
		{black(full(4), black(black(full(2), black(steep, full(1))), full(3))), 22, api.ErrTree},
	} {
		seeFault(t, c.x, c.at, c.want)
	}
}

// TestCheckFirst (P16.2): of several that are wrong the first one of the beads is told: a node ahead of what is below it, what is left ahead of what is right, whatever the keys are and whatever is wrong.
func TestCheckFirst(t *testing.T) {
	pair, steep := red(red(nil, nil), nil), black(nil, full(1))
	for _, c := range []struct {
		x    *node.Node
		at   int
		want api.Errno
	}{
		{over(steep, 9, steep), 0, api.ErrTag},
		{over(steep, 4, tagged(0)), 0, api.ErrTree},
		{over(tagged(3), 4, tagged(0)), 0, api.ErrTree},
		{over(pair, 1, pair), 0, api.ErrTree},
		{over(pair, 2, pair), 1, api.ErrTree},
		{over(pair, 2, tagged(0)), 1, api.ErrTree},
		{over(tagged(0), 2, pair), 1, api.ErrTag},
		{over(tagged(3), 4, steep), 1, api.ErrTag},
		{over(steep, 4, tagged(3)), 1, api.ErrTree},
		{over(full(2), 6, over(tagged(3), 4, steep)), 5, api.ErrTag},
		{over(full(1), 6, over(tagged(3), 4, steep)), 0, api.ErrTag},
		{over(over(full(1), 4, tagged(3)), 6, over(tagged(0), 4, tagged(9))), 3, api.ErrTag},
		{over(over(full(1), 4, steep), 6, over(tagged(3), 4, tagged(9))), 3, api.ErrTree},
		{over(over(tagged(3), 4, tagged(3)), 6, over(tagged(3), 4, full(1))), 2, api.ErrTag},
		// The root is red, too: that is told where nothing else is.
		{over(steep, 3, full(1)), 1, api.ErrTree},
		{over(full(1), 3, over(nil, 2, tagged(0))), 3, api.ErrTag},
	} {
		seeFault(t, c.x, c.at, c.want)
	}
}

// TestCheckKeys (P16.2): keys and values are not asked for: they need not rise, may stand twice, be of any size.
func TestCheckKeys(t *testing.T) {
	for count := range 6 {
		for _, shape := range shapes(count) {
			place := 0
			var planted func(s *node.Node) *node.Node
			planted = func(s *node.Node) *node.Node {
				if s == nil {
					return nil
				}
				place++
				key := place
				return rb.Make(planted(s.Left()), numberAt(key), numberAt(key/2), isOdd(s), planted(s.Right()))
			}
			seeByWords(t, planted(shape))
		}
	}
}

// TestCheckSmall (P16.2): all trees of up to 6 nodes, of any colours, whose nodes are well tagged: parts are those whose ways down have as many black nodes each, and no red node right below a red one.
func TestCheckSmall(t *testing.T) {
	for count := range 7 {
		parts := 0
		for _, x := range shapes(count) {
			seeByWords(t, x)
			isPart := blacksOf(x) >= 0
			if rb.Part(x) != isPart || rb.May(x) != (isPart && !isOdd(x)) {
				t.Errorf("a tree of %d, the tag %d: Part %t, May %t", count, x.Tag(), rb.Part(x), rb.May(x))
			}
			if isPart {
				parts++
			}
		}
		if all := partsOf(count); len(all) != parts {
			t.Errorf("of %d nodes there are %d parts, not %d", count, parts, len(all))
		}
	}
}

// smallTagged are all trees of so many nodes, with these tags on any node.
func smallTagged(count int, some []uint64) []*node.Node {
	if count == 0 {
		return []*node.Node{nil}
	}
	var all []*node.Node
	for left := range count {
		for _, l := range smallTagged(left, some) {
			for _, r := range smallTagged(count-1-left, some) {
				for _, tag := range some {
					all = append(all, over(l, tag, r))
				}
			}
		}
	}
	return all
}

// TestCheckSmallTags (P16.2): all trees of up to 4 nodes, with any small tags, the greatest ones among them; and of 3, with tags of all sizes.
func TestCheckSmallTags(t *testing.T) {
	for count := range 5 {
		for _, x := range smallTagged(count, []uint64{0, 1, 2, 3, 4, top - 1, top}) {
			seeByWords(t, x)
		}
	}
	for _, x := range smallTagged(3, tags()) {
		seeByWords(t, x)
	}
}

// TestCheckSpoilt (P16.2): parts of any shape, some nodes of which have other colours, or tags.
func TestCheckSpoilt(t *testing.T) {
	c := chance(2)
	wrong := map[api.Errno]int{}
	for range 3000 {
		x := c.spoilt(c.part(c.below(5), 2), 1+c.below(60))
		seeByWords(t, x)
		_, e := rb.Check(x)
		wrong[e]++
	}
	if wrong[api.OK] < 100 || wrong[api.ErrTag] < 100 || wrong[api.ErrTree] < 100 {
		t.Errorf("the test's own trees are of one kind: %v", wrong)
	}
}

// TestCheckTwice (P16.2): a node that stands in a tree twice counts twice, where it is passed on the way, too; where it is wrong, its first place is told.
func TestCheckTwice(t *testing.T) {
	a, r := full(1), red(nil, nil)
	x := black(red(a, a), a)
	seeAll(t, black(a, a), 3, api.OK, true)
	seeAll(t, black(r, r), 3, api.OK, true)
	seeAll(t, x, 5, api.OK, true)
	seeAll(t, black(x, x), 11, api.OK, true)
	seeAll(t, black(black(x, x), red(black(x, x), black(x, x))), 35, api.OK, true)
	seeRedPart(t, red(x, x))
	bad, steep, pair := tagged(3), black(nil, a), red(r, nil)
	seeFault(t, black(bad, bad), 1, api.ErrTag)
	seeFault(t, red(r, r), 0, api.ErrTree)
	seeFault(t, black(pair, pair), 1, api.ErrTree)
	seeFault(t, black(black(a, a), black(a, bad)), 6, api.ErrTag)
	seeFault(t, black(full(3), black(black(a, a), black(bad, bad))), 13, api.ErrTag)
	seeFault(t, black(full(3), black(black(bad, bad), full(2))), 10, api.ErrTag)
	seeFault(t, black(black(x, x), black(x, black(a, steep))), 20, api.ErrTree)
	seeFault(t, black(black(a, steep), black(a, steep)), 3, api.ErrTree)
	seeFault(t, black(black(steep, steep), black(a, a)), 2, api.ErrTree)
}

// TestCheckGrove (P16.2): trees that are made of any that there are, many of whose nodes stand in them often.
func TestCheckGrove(t *testing.T) {
	c := chance(3)
	deep := 0
	for range 80 {
		for _, x := range c.grove(60) {
			seeByWords(t, x)
			if at, e := rb.Check(x); e != api.OK && at > 1 {
				deep++
			}
		}
	}
	if deep < 50 {
		t.Errorf("of the test's own trees %d have their first node that is wrong deep down", deep)
	}
}

// TestCheckManyPlaces (R1, P16.2): trees whose nodes stand in more places than could be gone over.
func TestCheckManyPlaces(t *testing.T) {
	for high := range 63 {
		x := twins(high)
		seeAll(t, x, 1<<high-1, api.OK, true)
		if high < 3 {
			continue
		}
		l := x.Left()
		seeRedPart(t, red(l, l))
		seeFault(t, black(x, l), 0, api.ErrTree)
		bad := over(l, uint64(2*high+1), l)
		seeFault(t, black(bad, x), 1, api.ErrTag)
		seeFault(t, black(x, bad), 1<<high, api.ErrTag)
		seeFault(t, black(l, black(l.Left(), l)), 1<<(high-1), api.ErrTree)
		seeFault(t, black(l, red(red(l, l), l)), 1<<(high-1), api.ErrTree)
	}
	for high := range 32 {
		seeAll(t, crowdedTwins(high), 1<<(2*high)-1, api.OK, true)
	}
}

// TestCheckDeep (R1, P16.2): trees that are as deep as they have nodes need no memory of calls for each of them.
func TestCheckDeep(t *testing.T) {
	const deep = 200_000
	defer debug.SetMaxStack(debug.SetMaxStack(1 << 18))
	for way := range ways {
		for _, isRed := range []func(int) bool{never, always, second} {
			seeFault(t, deepOver(nil, deep, way, isRed), 0, api.ErrTree)
			seeFault(t, deepOver(full(3), deep, way, isRed), 0, api.ErrTree)
		}
	}
	// Far below there is the first node that is wrong: each one above it is even, and another one, on its right, is wrong as well.
	for _, tag := range []uint64{0, 4, 1 << 63, top - 2*deep - 3} {
		for _, isRed := range []func(int) bool{never, second} {
			x := tagged(tag)
			for k := range deep {
				x = rb.Make(x, 1, 2, isRed(k), tagged(x.Tag()))
			}
			seeFault(t, x, deep, api.ErrTag)
			seeFault(t, black(x, x), deep+1, api.ErrTag)
			seeFault(t, over(x, 9, x), 0, api.ErrTag)
		}
	}
}

// TestCheckDeepTwins (R1, P16.2): trees in which nodes stand on both sides of others, far down: where the last one alone is wrong, and where none is; some of them have more places than an int can tell.
func TestCheckDeepTwins(t *testing.T) {
	const deep = 20_000
	defer debug.SetMaxStack(debug.SetMaxStack(1 << 18))
	if x := twins(deep); !rb.May(x) || rb.May(red(x, x)) || !rb.Part(red(x, x)) {
		t.Error("twins may not be")
	}
	if !rb.May(crowdedTwins(deep)) {
		t.Error("crowded twins may not be")
	}
	x := tagged(0)
	for high, side := range twinsOf(deep) {
		if high < 60 {
			seeFault(t, black(side, x), 2<<high-1, api.ErrTag)
		}
		x = black(side, x)
	}
	if _, e := rb.Check(x); e != api.ErrTag || rb.Part(x) {
		t.Errorf("Check of a tree whose last bead is wrong: %v", e)
	}
}
