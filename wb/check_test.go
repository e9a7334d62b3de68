package wb_test

import (
	"runtime/debug"
	"testing"

	"joinery/api"
	"joinery/node"
	"joinery/wb"
)

// steep is a tree of 3 nodes, the first of which is wrong: its sides weigh 3 and 1.
func steep() *node.Node { return made(made(leaf(), nil), nil) }

// TestCheckEmpty (P18.2): the empty tree may be, and has no nodes.
func TestCheckEmpty(t *testing.T) { seeCheck(t, nil, 0, api.OK) }

// TestCheckMay (P18.2): of trees that may be, how many nodes there are.
func TestCheckMay(t *testing.T) {
	a, b := leaf(), leaf()
	for _, c := range []struct {
		x    *node.Node
		have int
	}{
		{a, 1}, {made(a, nil), 2}, {made(nil, a), 2}, {made(a, b), 3}, {made(made(a, nil), b), 4}, {made(a, made(nil, b)), 4}, {made(a, made(a, b)), 5}, {made(made(a, b), a), 5},
		{tagged(0), 1}, {over(tagged(0), 0, nil), 2}, {over(nil, 0, tagged(0)), 2}, {over(tagged(0), 0, tagged(0)), 3},
		{halved(64), 63}, {halved(100), 99}, {lean(6, leftHeavy, halved), 16}, {lean(6, rightHeavy, halved), 16}, {lean(7, turnsHeavy, halved), 23}, {twins(41), 1<<41 - 1},
	} {
		seeCheck(t, c.x, c.have, api.OK)
	}
}

// TestCheckTags (P18.2): of one node, and of the root over sides that are alike, and over such that are not, each tag but 0 is wrong.
func TestCheckTags(t *testing.T) {
	for _, tag := range tags() {
		seeCheck(t, tagged(tag), 0, api.ErrTag)
		for _, l := range []*node.Node{nil, leaf(), halved(3), steep(), halved(9), tagged(0), tagged(tag)} {
			for _, r := range []*node.Node{nil, leaf(), halved(3), steep(), halved(9), tagged(0), tagged(top)} {
				seeCheck(t, over(l, tag, r), 0, api.ErrTag)
			}
		}
		seeCheck(t, made(tagged(tag), nil), 1, api.ErrTag)
		seeCheck(t, made(nil, tagged(tag)), 1, api.ErrTag)
		seeCheck(t, made(leaf(), tagged(tag)), 2, api.ErrTag)
		seeCheck(t, over(tagged(0), 0, tagged(tag)), 2, api.ErrTag)
	}
}

// TestCheckSides (P18.2): a root over sides that may be, and are just alike, or just not, either way: then its left side, or its right one, is too heavy.
func TestCheckSides(t *testing.T) {
	for _, c := range []struct{ light, heavy int }{
		{1, 2}, {2, 4}, {3, 7}, {4, 9}, {5, 12}, {12, 29}, {28, 68}, {29, 71}, {30, 73}, {58, 142}, {290, 710}, {449096298670, most},
	} {
		a, b := heavy(c.light), heavy(c.heavy)
		seeMay(t, made(a, b))
		seeMay(t, made(b, a))
		a, b = heavy(c.light), heavy(c.heavy+1)
		seeCheck(t, made(a, b), 0, api.ErrTree)
		seeCheck(t, made(b, a), 0, api.ErrTree)
	}
	for left := 1; left < 90; left++ {
		for right := 1; right < 90; right++ {
			seeByWords(t, made(halved(left), halved(right)))
		}
	}
	seeCheck(t, made(nil, halved(3)), 0, api.ErrTree)
	seeCheck(t, made(halved(3), nil), 0, api.ErrTree)
	seeCheck(t, made(leaf(), halved(5)), 0, api.ErrTree)
	seeCheck(t, made(halved(5), leaf()), 0, api.ErrTree)
	seeCheck(t, made(nil, halved(500)), 0, api.ErrTree)
	seeCheck(t, made(halved(500), nil), 0, api.ErrTree)
}

// TestCheckHeavy (P18.2): a node of whose sides one, or both, weigh as much as a weight may be, or more than that.
func TestCheckHeavy(t *testing.T) {
	x, less, more := heavy(most), heavy(most-1), heavy(most+1)
	seeMay(t, made(x, x))
	seeMay(t, made(x, less))
	seeMay(t, made(less, x))
	seeMay(t, made(less, less))
	seeMay(t, more)
	for _, other := range []*node.Node{nil, leaf(), heavy(most / 2), less, x, more, heavy(2 * most), heavy(1 << 60)} {
		for _, y := range []*node.Node{more, heavy(most + 2), heavy(2 * most), heavy(2*most + 1), heavy(1 << 60)} {
			seeCheck(t, made(y, other), 0, api.ErrTree)
			seeCheck(t, made(other, y), 0, api.ErrTree)
			seeCheck(t, over(y, 1, other), 0, api.ErrTag)
			seeCheck(t, over(other, top, y), 0, api.ErrTag)
		}
	}
	bad := over(x.Left(), 3, x.Right())
	seeCheck(t, made(x, bad), most, api.ErrTag)
	seeCheck(t, made(bad, x), 1, api.ErrTag)
}

// TestCheckPlaces (P18.2): the place of what is wrong: the first one of the beads, the last one, one on the left, one on the right, one deep down.
func TestCheckPlaces(t *testing.T) {
	for _, c := range []struct {
		x    *node.Node
		at   int
		want api.Errno
	}{
		{over(halved(8), 5, halved(8)), 0, api.ErrTag},
		{made(halved(8), halved(20)), 0, api.ErrTree},
		{made(steep(), halved(4)), 1, api.ErrTree},
		{made(halved(4), steep()), 4, api.ErrTree},
		{made(halved(8), steep()), 8, api.ErrTree},
		{made(over(leaf(), 1, leaf()), leaf()), 1, api.ErrTag},
		{made(leaf(), over(leaf(), 1, leaf())), 2, api.ErrTag},
		{made(halved(4), made(leaf(), tagged(7))), 6, api.ErrTag},
		{made(made(leaf(), tagged(7)), halved(4)), 3, api.ErrTag},
		{made(made(tagged(7), leaf()), halved(4)), 2, api.ErrTag},
		{made(halved(8), made(halved(4), steep())), 12, api.ErrTree},
		{made(halved(8), made(steep(), halved(4))), 9, api.ErrTree},
		{made(halved(16), made(halved(8), made(halved(4), steep()))), 28, api.ErrTree},
		{made(halved(16), made(halved(8), made(halved(4), made(leaf(), tagged(top))))), 30, api.ErrTag},
		{made(made(made(steep(), halved(4)), halved(8)), halved(16)), 3, api.ErrTree},
		{made(made(made(halved(4), steep()), halved(8)), halved(16)), 6, api.ErrTree},
		{made(halved(16), made(made(halved(4), made(tagged(1), nil)), halved(8))), 22, api.ErrTag},
	} {
		seeCheck(t, c.x, c.at, c.want)
	}
}

// TestCheckFirst (P18.2): of several that are wrong the first one of the beads is told: a node ahead of what is below it, what is left ahead of what is right, whatever the keys are and whatever is wrong.
func TestCheckFirst(t *testing.T) {
	bad := func() *node.Node { return over(leaf(), 6, leaf()) }
	keyed := func(l *node.Node, key int64, tag uint64, r *node.Node) *node.Node { return node.New(l, key, 0, tag, r) }
	for _, c := range []struct {
		x    *node.Node
		at   int
		want api.Errno
	}{
		{over(steep(), 9, steep()), 0, api.ErrTag},
		{over(steep(), 9, nil), 0, api.ErrTag},
		{made(steep(), nil), 0, api.ErrTree},
		{made(nil, bad()), 0, api.ErrTree},
		{made(bad(), nil), 0, api.ErrTree},
		{made(bad(), steep()), 1, api.ErrTag},
		{made(steep(), bad()), 1, api.ErrTree},
		{made(steep(), steep()), 1, api.ErrTree},
		{made(halved(4), made(bad(), steep())), 5, api.ErrTag},
		{made(halved(4), made(steep(), bad())), 5, api.ErrTree},
		{made(made(leaf(), tagged(2)), made(tagged(3), leaf())), 3, api.ErrTag},
		{made(made(halved(4), steep()), made(bad(), halved(4))), 5, api.ErrTree},
		{made(made(halved(4), bad()), made(steep(), halved(4))), 5, api.ErrTag},
		{made(over(tagged(2), 3, tagged(4)), leaf()), 1, api.ErrTag},
		{made(made(tagged(2), tagged(4)), tagged(5)), 2, api.ErrTag},
		// By their keys what is wrong on the right, or below, would come first.
		{keyed(keyed(nil, 9, 1, nil), 5, 0, keyed(nil, 1, 2, keyed(nil, 0, 0, nil))), 1, api.ErrTag},
		{keyed(keyed(keyed(nil, 1, 1, nil), 2, 1, nil), 3, 0, nil), 0, api.ErrTree},
		{keyed(keyed(keyed(nil, 1, 1, nil), 2, 1, nil), 3, 0, leaf()), 1, api.ErrTag},
	} {
		seeCheck(t, c.x, c.at, c.want)
	}
}

// TestCheckKeys (P18.2): keys and values are not asked for: they need not rise, may stand twice, be of any size.
func TestCheckKeys(t *testing.T) {
	for count := range 8 {
		for _, shape := range shapes(count, 0) {
			place := 0
			var planted func(s *node.Node) *node.Node
			planted = func(s *node.Node) *node.Node {
				if s == nil {
					return nil
				}
				place++
				key := place
				return wb.Make(planted(s.Left()), numberAt(key), numberAt(key/2), planted(s.Right()))
			}
			seeByWords(t, planted(shape))
		}
	}
}

// TestCheckSmall (P18.2): all trees of up to 9 nodes of the tag 0: as many may be as there are such whose sides weigh alike all the way down.
func TestCheckSmall(t *testing.T) {
	for count := range 10 {
		may := 0
		for _, x := range shapes(count, 0) {
			seeByWords(t, x)
			if wb.May(x) {
				may++
			}
		}
		if all := balancedOf(count); len(all) != may {
			t.Errorf("of %d nodes there are %d trees that may be, not %d", count, len(all), may)
		}
	}
}

// TestCheckSmallTags (P18.2): all trees of up to 5 nodes, with some tags on any node; and of 3, with tags of all sizes.
func TestCheckSmallTags(t *testing.T) {
	for count := range 6 {
		for _, x := range shapes(count, 0, 1, top) {
			seeByWords(t, x)
		}
	}
	for _, x := range shapes(3, append(tags(), 0)...) {
		seeByWords(t, x)
	}
}

// TestCheckSpoilt (P18.2): trees of any shape that may be, some nodes of which have other tags, or sides.
func TestCheckSpoilt(t *testing.T) {
	c := chance(3)
	wrong := map[api.Errno]int{}
	for range 2000 {
		x := c.spoilt(c.balanced(1+c.below(150)), 1+c.below(200))
		seeByWords(t, x)
		_, e := wb.Check(x)
		wrong[e]++
	}
	if wrong[api.OK] < 100 || wrong[api.ErrTag] < 100 || wrong[api.ErrTree] < 100 {
		t.Errorf("the test's own trees are of one kind: %v", wrong)
	}
}

// TestCheckTwice (P18.2): a node that stands in a tree twice counts twice, where it is passed on the way, too; where it is wrong, its first place is told.
func TestCheckTwice(t *testing.T) {
	a := leaf()
	x := made(a, made(a, nil))
	seeCheck(t, made(a, a), 3, api.OK)
	seeCheck(t, x, 4, api.OK)
	seeCheck(t, made(x, x), 9, api.OK)
	seeCheck(t, made(made(x, x), made(x, made(a, made(a, a)))), 20, api.OK)
	bad, wrong := tagged(3), steep()
	seeCheck(t, made(bad, bad), 1, api.ErrTag)
	seeCheck(t, made(made(a, a), made(a, bad)), 6, api.ErrTag)
	seeCheck(t, made(halved(8), made(made(a, a), made(bad, bad))), 13, api.ErrTag)
	seeCheck(t, made(made(x, x), made(x, wrong)), 15, api.ErrTree)
	seeCheck(t, made(made(x, x), made(wrong, wrong)), 11, api.ErrTree)
	seeCheck(t, made(made(x, wrong), made(x, wrong)), 6, api.ErrTree)
}

// TestCheckGrove (P18.2): trees that are made of any that there are, many of whose nodes stand in them often.
func TestCheckGrove(t *testing.T) {
	c := chance(4)
	several := 0
	for range 60 {
		for _, x := range c.grove(60) {
			seeByWords(t, x)
			if l := faultsOf(x); len(l) > 1 && l[0] > 1 {
				several++
			}
		}
	}
	if several < 100 {
		t.Errorf("of the test's own trees %d have several nodes that are wrong, the first one deep down", several)
	}
}

// TestCheckManyPlaces (R1, P18.2): trees whose nodes stand in more places than could be gone over.
func TestCheckManyPlaces(t *testing.T) {
	for high := range 42 {
		x := twins(high)
		seeCheck(t, x, 1<<high-1, api.OK)
		if high < 3 || high > 40 {
			continue
		}
		l := x.Left()
		bad, uneven := over(l, 7, l), made(l, l.Left().Left())
		seeCheck(t, made(bad, x), 1, api.ErrTag)
		seeCheck(t, made(x, bad), 1<<high, api.ErrTag)
		seeCheck(t, made(uneven, x), 1, api.ErrTree)
		seeCheck(t, made(x, uneven), 1<<high, api.ErrTree)
		seeCheck(t, made(made(l, made(l.Left(), l.Left())), bad), 1<<high, api.ErrTag)
	}
	for high := 42; high < 63; high++ {
		seeCheck(t, twins(high), 0, api.ErrTree)
	}
}

// TestCheckRound (R1, P18.2): trees that have more nodes than an int can tell may not be: some node has sides that are too heavy.
func TestCheckRound(t *testing.T) {
	for high := 63; high < 80; high++ {
		x := twins(high)
		for _, y := range []*node.Node{x, made(x, nil), made(nil, x), made(made(x, nil), nil), made(made(x, nil), made(nil, x)), made(leaf(), made(made(x, leaf()), nil))} {
			if _, e := wb.Check(y); e != api.ErrTree || wb.May(y) {
				t.Errorf("Check of a tree that is %d high: %v; it may be: %t", heightOf(y), e, wb.May(y))
			}
			seeCheck(t, over(y, 2, nil), 0, api.ErrTag)
			seeCheck(t, over(y, 2, y), 0, api.ErrTag)
		}
	}
	if x := twins(20_000); wb.May(x) || wb.May(made(x, nil)) || wb.May(made(nil, made(x, nil))) {
		t.Error("twins may be")
	}
}

// TestCheckDeep (R1, P18.2): trees that are as deep as they have nodes need no memory of calls for each of them.
func TestCheckDeep(t *testing.T) {
	const deep = 200_000
	other := halved(deep + 1)
	defer debug.SetMaxStack(debug.SetMaxStack(1 << 18))
	for way := range ways {
		for _, x := range []*node.Node{deepOver(nil, deep, way), deepOver(halved(8), deep, way)} {
			seeCheck(t, x, 0, api.ErrTree)
			seeCheck(t, over(x, 9, x), 0, api.ErrTag)
			seeCheck(t, made(x, x), 1, api.ErrTree)
			seeCheck(t, made(x, other), 1, api.ErrTree)
			seeCheck(t, made(other, x), deep+1, api.ErrTree)
		}
	}
}
