package treap_test

import (
	"runtime/debug"
	"slices"
	"testing"

	"joinery/api"
	"joinery/node"
	"joinery/treap"
)

// TestCheckSmall (P20.1): the empty tree, one node, a root above its sides, on the left, on the right, on both.
func TestCheckSmall(t *testing.T) {
	seeCheck(t, nil, 0, api.OK)
	for _, tag := range tags() {
		for _, key := range keys() {
			seeCheck(t, over(nil, item(key, tag), nil), 1, api.OK)
		}
	}
	a, b := tagged(nil, 2, nil), tagged(nil, 3, nil)
	for _, tag := range []uint64{4, 1 << 63, top} {
		seeCheck(t, tagged(a, tag, nil), 2, api.OK)
		seeCheck(t, tagged(nil, tag, b), 2, api.OK)
		seeCheck(t, tagged(a, tag, b), 3, api.OK)
		seeCheck(t, tagged(tagged(a, 3, nil), tag, tagged(b, 4, a)), 6, api.OK)
	}
}

// TestCheckRoot (P20.1): a root that is wrong: by its left side, by its right one, by both; by tags, or, where they are the same, by keys.
func TestCheckRoot(t *testing.T) {
	for k, tag := range tags()[1:] {
		lower, x := item(5, tags()[k]), tagged(nil, tag, nil)
		seeCheck(t, over(x, lower, nil), 0, api.ErrTree)
		seeCheck(t, over(nil, lower, x), 0, api.ErrTree)
		seeCheck(t, over(x, lower, x), 0, api.ErrTree)
		seeCheck(t, over(over(nil, lower, nil), lower, x), 0, api.ErrTree)
		seeCheck(t, over(x, lower, over(nil, lower, nil)), 0, api.ErrTree)
		seeMay(t, tagged(over(nil, lower, nil), tag, over(nil, lower, nil)))
	}
	for k, key := range keys()[1:] {
		for _, tag := range tags() {
			lower, x := item(keys()[k], tag), over(nil, item(key, tag), nil)
			seeCheck(t, over(x, lower, nil), 0, api.ErrTree)
			seeCheck(t, over(nil, lower, x), 0, api.ErrTree)
			seeCheck(t, over(x, lower, x), 0, api.ErrTree)
			seeMay(t, over(over(nil, lower, nil), item(key, tag), nil))
			seeMay(t, over(nil, item(key, tag), over(nil, lower, nil)))
		}
	}
}

// TestCheckSameAsSide (P20.1): nodes that have the same tag and key as the root of a side may be, whatever their values are.
func TestCheckSameAsSide(t *testing.T) {
	for _, tag := range tags() {
		for _, key := range keys() {
			seeMay(t, flat(3, item(key, tag)))
			a := node.New(nil, key, 9, tag, nil)
			seeMay(t, node.New(a, key, -9, tag, nil))
			seeMay(t, node.New(nil, key, -9, tag, a))
			seeMay(t, node.New(a, key, 0, tag, a))
		}
	}
}

// TestCheckEachPlace (P20.1): trees of which one node alone is wrong, at each place: by its left side, by its right one, by both; by tags, by keys.
func TestCheckEachPlace(t *testing.T) {
	both := func(x api.Item) api.Item { return api.Item{Key: x.Key, Val: x.Val, Tag: x.Tag - 1} }
	byKey := func(x api.Item) api.Item { return api.Item{Key: x.Key - 1, Val: x.Val, Tag: x.Tag} }
	good := flat(5, item(5, 6))
	ends := endsOf(good)
	for _, lower := range []func(x api.Item) api.Item{both, byKey} {
		for place, n := range beadsOf(good) {
			if n.Size() == 1 {
				continue
			}
			right := place + 1 + n.Left().Size()
			for _, low := range []struct{ from, to int }{{place, place}, {place, right - 1}, {right, ends[place]}} {
				// What is lowered with the node, on one side or none, does not stand above it.
				x := changed(good, func(at int, x api.Item) api.Item {
					if at == place || at >= low.from && at <= low.to {
						return lower(x)
					}
					return x
				})
				if wrong := wrongIn(x); !slices.Equal(wrong, []int{place}) {
					t.Fatalf("the test's own tree is wrong at %v, not at %d alone", wrong, place)
				}
				seeCheck(t, x, place, api.ErrTree)
			}
		}
	}
}

// endsOf is, of each place among a tree's beads, the place of the last node below it.
func endsOf(t *node.Node) []int {
	var l []int
	for place, n := range beadsOf(t) {
		l = append(l, place+n.Size()-1)
	}
	return l
}

// TestCheckFurtherDown (P20.1): what is further down, or on another node's side, tells nothing of a node: it may stand above that, and only the root of a side right below a node makes it wrong.
func TestCheckFurtherDown(t *testing.T) {
	high, mid, low := tagged(nil, 9, nil), item(5, 5), item(5, 1)
	seeCheck(t, over(over(high, low, nil), mid, nil), 1, api.ErrTree)
	seeCheck(t, over(over(nil, low, high), mid, nil), 1, api.ErrTree)
	seeCheck(t, over(nil, mid, over(high, low, nil)), 1, api.ErrTree)
	seeCheck(t, over(nil, mid, over(nil, low, high)), 1, api.ErrTree)
	seeCheck(t, over(flat(2, low), mid, over(nil, low, high)), 4, api.ErrTree)
	seeCheck(t, over(over(nil, mid, over(nil, low, high)), item(5, 6), over(high, low, nil)), 2, api.ErrTree)
	seeCheck(t, tagged(over(flat(2, low), mid, nil), 8, over(nil, item(5, 2), flat(3, low))), 13, api.OK)
	// What is on the left stands above a node on the right, and the other way round.
	seeMay(t, tagged(tagged(flat(2, mid), 6, nil), 9, tagged(nil, 2, flat(1, low))))
	seeMay(t, tagged(tagged(nil, 2, flat(1, low)), 9, tagged(flat(2, mid), 6, nil)))
}

// TestCheckFirst (P20.1): of several that are wrong the first one of the beads is told: a node ahead of what is below it, what is left ahead of what is right.
func TestCheckFirst(t *testing.T) {
	bad := func() *node.Node { return tagged(tagged(nil, 3, nil), 2, nil) }
	good := flat(2, item(5, 3))
	for _, c := range []struct {
		x  *node.Node
		at int
	}{
		{tagged(bad(), 1, bad()), 0}, {tagged(bad(), 1, nil), 0}, {tagged(nil, 0, bad()), 0},
		{tagged(bad(), 9, bad()), 1}, {tagged(good, 9, bad()), 4}, {tagged(bad(), 9, good), 1},
		{tagged(good, 9, tagged(bad(), 4, bad())), 5}, {tagged(good, 9, tagged(good, 4, bad())), 8},
		{tagged(good, 9, tagged(good, 1, bad())), 4}, {tagged(tagged(good, 4, bad()), 9, bad()), 5},
		{tagged(tagged(good, 2, bad()), 9, bad()), 1}, {tagged(tagged(tagged(bad(), 4, nil), 5, nil), 6, bad()), 3},
	} {
		if wrong := wrongIn(c.x); len(wrong) < 1 || wrong[0] != c.at {
			t.Fatalf("the test's own tree is wrong at %v", wrong)
		}
		seeCheck(t, c.x, c.at, api.ErrTree)
	}
	// By their keys, from left to right, what is below would come first.
	seeCheck(t, over(over(over(nil, item(1, 3), nil), item(2, 2), nil), item(3, 1), nil), 0, api.ErrTree)
	seeCheck(t, over(nil, item(3, 1), over(nil, item(2, 2), over(nil, item(1, 3), nil))), 0, api.ErrTree)
}

// TestCheckAllSmall (P20.1): all trees of up to 4 nodes of small tags and keys, and of up to 2 of tags and keys of all sizes.
func TestCheckAllSmall(t *testing.T) {
	small := someItems([]int64{-1, 0}, []uint64{0, 1})
	for count := range 5 {
		for _, x := range shapes(count, small) {
			seeByWords(t, x)
		}
	}
	for _, x := range shapes(3, someItems([]int64{-1, 0, 1}, []uint64{0, 1, 1 << 63})) {
		seeByWords(t, x)
	}
	for _, x := range shapes(2, someItems(keys(), tags())) {
		seeByWords(t, x)
	}
}

// TestCheckGrove (P20.1): trees that are made of any that there are, many of whose nodes stand in them often: such a node counts twice, and where it is wrong its first place is told.
func TestCheckGrove(t *testing.T) {
	c := chance(2)
	several, none := 0, 0
	for range 60 {
		for _, x := range c.grove(60) {
			seeByWords(t, x)
			switch l := wrongIn(x); {
			case len(l) == 0:
				none++
			case len(l) > 1 && l[0] > 1:
				several++
			}
		}
	}
	if several < 100 || none < 100 {
		t.Errorf("of the test's own trees %d have several nodes that are wrong, the first one deep down, and %d none", several, none)
	}
}

// TestCheckManyPlaces (R1, P20.1): trees whose nodes stand in more places than could be gone over, where nothing is wrong, and where something is, on either side, at the first bead or deep down.
func TestCheckManyPlaces(t *testing.T) {
	for high := 4; high < 63; high++ {
		x := twins(high)
		seeCheck(t, x, 1<<high-1, api.OK)
		bad := tagged(x.Left(), 0, x.Right())
		seeCheck(t, bad, 0, api.ErrTree)
		if high < 62 {
			seeCheck(t, tagged(bad, 99, x), 1, api.ErrTree)
			seeCheck(t, tagged(x, 99, bad), 1<<high, api.ErrTree)
			seeCheck(t, tagged(bad, 99, bad), 1, api.ErrTree)
		}
		deep := tagged(nil, 0, tagged(nil, 1, nil))
		for k := range high - 2 {
			deep = tagged(twins(k+1), 99, deep)
		}
		// At each step down a root and its left side are passed.
		seeCheck(t, deep, 1<<(high-1)-2, api.ErrTree)
	}
	for high := 63; high < 90; high++ {
		if x := twins(high); !treap.May(x) || treap.May(tagged(x, 0, x)) || treap.May(tagged(tagged(nil, 0, x), 99, nil)) {
			t.Errorf("twins that are %d high", high)
		}
	}
}

// TestCheckDeep (R1, P20.1): trees that are as deep as they have nodes need no memory of calls for each of them.
func TestCheckDeep(t *testing.T) {
	const deep = 200_000
	defer debug.SetMaxStack(debug.SetMaxStack(1 << 18))
	rising := func(k int) api.Item { return item(5, uint64(k+1)) }
	bad := tagged(nil, 0, tagged(nil, 1, nil))
	for way := range ways {
		x := deepOver(nil, deep, way, rising)
		seeCheck(t, x, deep, api.OK)
		seeCheck(t, deepOver(bad, deep, way, rising), deep, api.ErrTree)
		seeCheck(t, tagged(x, 0, x), 0, api.ErrTree)
		seeCheck(t, tagged(x, top, x), 2*deep+1, api.OK)
		seeCheck(t, tagged(x, top, bad), deep+1, api.ErrTree)
		seeCheck(t, deepOver(nil, deep, way, func(k int) api.Item { return item(int64(-k), 3) }), 0, api.ErrTree)
	}
}
