package treapjoin_test

import (
	"math"
	"runtime/debug"
	"slices"
	"testing"

	"joinery/api"
	"joinery/mix"
	"joinery/node"
	"joinery/treap"
	"joinery/treapjoin"
)

// seeTree fails the test, unless a tree is the tree of these items, which are unlike.
func seeTree(t *testing.T, x *node.Node, l []api.Item) {
	t.Helper()
	if !areUnlike(l) {
		t.Fatalf("of the test's own items some are the same: %v", l)
	}
	if !treap.May(x) {
		t.Fatalf("%s may not be", lineOf(x))
	}
	seeSame(t, x, treap.Of(l...))
}

// unlikeRows are rows of items, no two of which have the same tag and key: of any tags and keys, of one tag, of keys' own tags, and all of a few of all sizes.
func (c *chance) unlikeRows(count int) [][]api.Item {
	oneTag, own := c.unlike(count), c.unlike(count)
	for k := range count {
		oneTag[k].Tag = 1 << 63
		own[k].Tag = mix.Of(own[k].Key)
	}
	sizes := c.mingled(someItems(keys(), tags()))
	return [][]api.Item{c.unlike(count), oneTag, own, sizes[:min(count, len(sizes))]}
}

// TestAllItems (P21.3): the join of two treaps of unlike items, and one more, is the tree of all of them, wherever they were parted.
func TestAllItems(t *testing.T) {
	c := chance(20)
	for count := 1; count < 60; count++ {
		for _, l := range c.unlikeRows(count) {
			for at := range l {
				a, x, b := parted(l, at)
				seeTree(t, treapjoin.Join(a, x, b), l)
			}
		}
	}
}

// TestAllSmall (P21.3): every row of a few unlike items of small tags and keys, parted anywhere: the join is the tree of all of them by the words of layer 20.
func TestAllSmall(t *testing.T) {
	joined := 0
	for count := 1; count < 5; count++ {
		rows(count, someItems([]int64{-1, 0}, []uint64{0, 1, 1 << 63}), func(l []api.Item) {
			if !areUnlike(l) {
				return
			}
			for at := range l {
				joined++
				all := treapjoin.Join(treeByWords(l[:at]), l[at], treeByWords(l[at+1:]))
				seeSame(t, all, treeByWords(l))
			}
		})
	}
	// Of six items there are 6, 30, 120, 360 rows of 1, 2, 3, 4.
	if joined != 6+2*30+3*120+4*360 {
		t.Errorf("%d were joined", joined)
	}
}

// TestThreeTrees (P21.3): three trees, and two items between them, come to the same, whichever two are joined first.
func TestThreeTrees(t *testing.T) {
	c := chance(21)
	for count := 2; count < 50; count++ {
		for _, l := range c.unlikeRows(count) {
			for range 12 {
				first, last := c.below(len(l)), c.below(len(l))
				if first == last {
					continue
				}
				first, last = min(first, last), max(first, last)
				a, x, rest := parted(l, first)
				m, y, b := parted(l[first+1:], last-first-1)
				seeTree(t, rest, l[first+1:])
				fromLeft := treapjoin.Join(treapjoin.Join(a, x, m), y, b)
				fromRight := treapjoin.Join(a, x, treapjoin.Join(m, y, b))
				seeSame(t, fromLeft, fromRight)
				seeTree(t, fromLeft, l)
			}
		}
	}
}

// cutAt is what stands ahead of a place of a tree, what stands there, and what stands behind it: parted by joins alone.
func cutAt(x *node.Node, at int) (l *node.Node, own api.Item, r *node.Node) {
	switch ahead := x.Left().Size(); {
	case at < ahead:
		l, own, r = cutAt(x.Left(), at)
		return l, own, treapjoin.Join(r, itemOf(x), x.Right())
	case at > ahead:
		l, own, r = cutAt(x.Right(), at-ahead-1)
		return treapjoin.Join(x.Left(), itemOf(x), l), own, r
	}
	return x.Left(), itemOf(x), x.Right()
}

// TestPartedAgain (P21.3): what was joined can be parted at its root, and joined again, to the same; so it can be parted at any place.
func TestPartedAgain(t *testing.T) {
	c := chance(22)
	for count := 1; count < 50; count++ {
		for _, l := range c.unlikeRows(count) {
			a, x, b := parted(l, c.below(len(l)))
			all := treapjoin.Join(a, x, b)
			seeSame(t, treapjoin.Join(all.Left(), itemOf(all), all.Right()), all)
			for at := range l {
				before, own, behind := cutAt(all, at)
				if own != l[at] {
					t.Errorf("at %d stands %v, not %v", at, own, l[at])
				}
				seeTree(t, before, l[:at])
				seeTree(t, behind, l[at+1:])
				seeSame(t, treapjoin.Join(before, own, behind), all)
			}
		}
	}
}

// TestPartedSame (P21.1): what was joined of items that are the same as each other can be parted at its root, and joined again, to a tree of the same items.
func TestPartedSame(t *testing.T) {
	c := chance(23)
	for range 500 {
		a, b := c.anyHeap(40), c.anyHeap(40)
		x := c.anyItem(a, b)
		all := seeJoin(t, a, x, b)
		again := seeJoin(t, all.Left(), itemOf(all), all.Right())
		if !slices.Equal(treap.Items(again), allOf(a, x, b)) {
			t.Errorf("the items of %s became those of %s", lineOf(all), lineOf(again))
		}
	}
}

// TestInAnyOrder (P21.3): a row that is parted anywhere, and joined again, by halves or one by one, from left to right, or from right to left, comes to the same one.
func TestInAnyOrder(t *testing.T) {
	c := chance(24)
	var joined func(l []api.Item) *node.Node
	joined = func(l []api.Item) *node.Node {
		if len(l) == 0 {
			return nil
		}
		at := c.below(len(l))
		return treapjoin.Join(joined(l[:at]), l[at], joined(l[at+1:]))
	}
	for count := range 150 {
		for _, l := range c.unlikeRows(count) {
			var fromLeft, fromRight *node.Node
			for k, x := range l {
				fromLeft = treapjoin.Join(fromLeft, x, nil)
				fromRight = treapjoin.Join(nil, l[len(l)-1-k], fromRight)
			}
			seeTree(t, joined(l), l)
			seeTree(t, fromLeft, l)
			seeTree(t, fromRight, l)
		}
	}
}

// TestManyItems (P21.3): very many items, joined one by one, either way, and by halves.
func TestManyItems(t *testing.T) {
	const many = 50_000
	c := chance(25)
	l := c.unlike(many)
	var fromLeft, fromRight *node.Node
	for k, x := range l {
		fromLeft = treapjoin.Join(fromLeft, x, nil)
		fromRight = treapjoin.Join(nil, l[many-1-k], fromRight)
	}
	var halved func(l []api.Item) *node.Node
	halved = func(l []api.Item) *node.Node {
		if len(l) == 0 {
			return nil
		}
		at := len(l) / 2
		return treapjoin.Join(halved(l[:at]), l[at], halved(l[at+1:]))
	}
	seeTree(t, fromLeft, l)
	seeTree(t, fromRight, l)
	seeTree(t, halved(l), l)
}

// seeEnds joins trees that may be anything, each with each; all that is asked of that is that it ends, and leaves all of them as they are.
func seeEnds(t *testing.T, l []*node.Node) {
	t.Helper()
	var was [][]bead
	for _, x := range l {
		was = append(was, beadsOf(x))
	}
	for _, a := range l {
		for _, b := range l {
			for _, x := range []api.Item{item(math.MinInt64, 0), item(5, 5), item(math.MaxInt64, top)} {
				treapjoin.Join(a, x, b)
			}
			treapjoin.Most(a, b)
		}
	}
	for k, x := range l {
		if !isAsItWas(was[k]) {
			t.Errorf("joins of %s changed it", lineOf(x))
		}
	}
}

// TestWrongEnd (R1): joins of trees that may not be end: at the root, below it, everywhere, in all small ones, in such as stand in each other anyhow.
func TestWrongEnd(t *testing.T) {
	bad := over(leaf(item(1, 9)), item(1, 3), leaf(item(-1, 9)))
	l := []*node.Node{nil, leaf(item(5, 5)), bad, over(bad, item(4, 4), bad), over(nil, item(9, top), bad), flat(4, item(5, 5))}
	for way := range ways {
		for _, down := range []*node.Node{nil, bad} {
			l = append(l, deepOver(down, 30, way, func(k int) api.Item { return item(5, uint64(99-k)) }),
				deepOver(down, 30, way, func(k int) api.Item { return item(int64(-k), 5) }),
				deepOver(down, 30, way, func(k int) api.Item { return item(int64(k), uint64(k*k%17)) }))
		}
	}
	seeEnds(t, l)
	c := chance(28)
	for range 10 {
		seeEnds(t, c.grove(60))
	}
	var small []*node.Node
	some := []api.Item{item(5, 4), item(5, 6)}
	for count := range 4 {
		rows(count, some, func(row []api.Item) {
			for way := range ways {
				small = append(small, deepOver(nil, count, way, func(k int) api.Item { return row[k] }))
			}
		})
	}
	seeEnds(t, small)
}

// TestJoinsOfWrongEnd (R1): what came of trees that may not be, is joined again, and again.
func TestJoinsOfWrongEnd(t *testing.T) {
	c := chance(26)
	for range 30 {
		l := c.grove(20)
		for range 200 {
			a, b := l[c.below(len(l))], l[c.below(len(l))]
			if x := treapjoin.Join(a, c.anyItem(a, b), b); x.Size() < 300 {
				l = append(l, x)
			}
		}
		seeEnds(t, l[:20])
	}
}

// TestTooManyEnd (R1): joins of trees whose sizes go round end; so do those of trees that may not be, whose nodes stand in more places than could be gone over.
func TestTooManyEnd(t *testing.T) {
	l := []*node.Node{nil, leaf(item(7, 7)), flat(5, item(5, 5))}
	for _, high := range []int{40, 61, 62, 63, 64, 65, 80, 3000} {
		for _, by := range []uint64{0, 1, 1 << 60, top} {
			x := twins(high, by)
			l = append(l, x, over(x, item(0, 0), x))
		}
	}
	seeEnds(t, l)
}

// TestDeepEnd (R1): joins of trees that may not be, and are as deep as they have nodes, end, and need no memory of calls for each of them.
func TestDeepEnd(t *testing.T) {
	const deep = 100_000
	defer debug.SetMaxStack(debug.SetMaxStack(1 << 18))
	l := []*node.Node{nil, leaf(item(5, 5)), twins(64, 1)}
	for way := range ways {
		l = append(l, deepOver(nil, deep, way, func(k int) api.Item { return item(5, uint64(deep-k)) }),
			deepOver(twins(62, top), deep, way, func(k int) api.Item { return item(int64(k%3), uint64(k%7)) }))
	}
	seeEnds(t, l)
}

// TestTreesStay (R5, P21.1, P21.2): no call changes a tree that was handed in, nor what was made of it before.
func TestTreesStay(t *testing.T) {
	c := chance(27)
	l := append(c.grove(30), flat(5, item(3, 3)), twins(7, 1), treap.Of(c.unlike(60)...), c.anyHeap(60), deepOver(nil, 50, zigzag, func(k int) api.Item { return item(int64(k), 1) }))
	for range 3 {
		a, b := l[c.below(len(l))], l[c.below(len(l))]
		l = append(l, treapjoin.Join(a, c.anyItem(a, b), b))
	}
	seeEnds(t, l)
	x, y := treap.Of(c.unlike(40)...), treap.Of(c.unlike(40)...)
	at := c.anyItem(x, y)
	all := treapjoin.Join(x, at, y)
	was := beadsOf(all)
	for _, other := range []*node.Node{nil, x, y, all, all.Left(), all.Right()} {
		seeBoth(t, all, at, other)
		seeBoth(t, all, item(3, top), other)
		seeBoth(t, all, item(3, 0), other)
	}
	if !isAsItWas(was) {
		t.Errorf("joins of a join changed it")
	}
}
