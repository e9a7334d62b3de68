package rbjoin_test

import (
	"runtime/debug"
	"slices"
	"testing"

	"joinery/api"
	"joinery/node"
	"joinery/rb"
	"joinery/rbjoin"
)

// pairAt is a pair for each place.
func pairAt(place int) api.Pair { return api.Pair{Key: int64(place), Val: numberAt(place)} }

// pairsFrom are those of so many places.
func pairsFrom(from, count int) []api.Pair {
	var l []api.Pair
	for k := range count {
		l = append(l, pairAt(from+k))
	}
	return l
}

// seeRow fails the test, unless a tree may be, and has just these pairs.
func seeRow(t *testing.T, x *node.Node, want []api.Pair) {
	t.Helper()
	if at, e := rb.Check(x); at != len(want) || e != api.OK {
		t.Fatalf("Check of a tree of %d joins: %d, %v", len(want), at, e)
	}
	if blacks := blacksOf(x); 2*blacks != rb.Rank(x) {
		t.Errorf("a tree of the rank %d has %d black nodes on each way down", rb.Rank(x), blacks)
	}
	if got := pairsOf(x); !slices.Equal(got, want) {
		t.Errorf("a tree of %d joins has the pairs %v, not %v", len(want), got, want)
	}
}

// behind is a tree, and the pair of a place behind it.
func behind(x *node.Node, place int) *node.Node {
	p := pairAt(place)
	return rbjoin.Join(x, p.Key, p.Val, nil)
}

// ahead is a tree, and the pair of a place ahead of it.
func ahead(x *node.Node, place int) *node.Node {
	p := pairAt(place)
	return rbjoin.Join(nil, p.Key, p.Val, x)
}

// TestFromLeft (P17.3): single pairs, from left to right.
func TestFromLeft(t *testing.T) {
	var x *node.Node
	for count := range 500 {
		seeRow(t, x, pairsFrom(0, count))
		x = behind(x, count)
	}
}

// TestFromRight (P17.3): single pairs, from right to left.
func TestFromRight(t *testing.T) {
	var x *node.Node
	for count := range 500 {
		seeRow(t, x, pairsFrom(-count+1000, count))
		x = ahead(x, 1000-count-1)
	}
}

// TestFromBothEnds (P17.3): single pairs, from both ends by turns.
func TestFromBothEnds(t *testing.T) {
	var x *node.Node
	from, count := 1000, 0
	for range 250 {
		x = behind(x, from+count)
		count++
		seeRow(t, x, pairsFrom(from, count))
		from--
		x = ahead(x, from)
		count++
		seeRow(t, x, pairsFrom(from, count))
	}
}

// TestManyPairs (P17.3): many single pairs, either way, and no tree on the way is too high.
func TestManyPairs(t *testing.T) {
	const many = 60_000
	var l, r *node.Node
	for k := range many {
		l, r = behind(l, k), ahead(r, many-1-k)
		for _, x := range []*node.Node{l, r} {
			if x.Size() != k+1 || 1<<rb.High(x)-1 > k+1 || rb.Red(x) {
				t.Fatalf("of %d joins: the size %d, the tag %d", k+1, x.Size(), x.Tag())
			}
		}
	}
	all := pairsFrom(0, many)
	seeRow(t, l, all)
	seeRow(t, r, all)
}

// TestBesideTree (P17.3): single pairs ahead of, and behind, a tree that was there, of any shape, black or red.
func TestBesideTree(t *testing.T) {
	c := chance(20)
	for half := range 6 {
		for _, shape := range partsOf(&c, half, 2) {
			first, size := 5000, shape.Size()
			x, _ := withPairs(shape, first, pairAt)
			onRight, onLeft, onBoth := x, x, x
			for k := range 60 {
				onRight = behind(onRight, first+size+k)
				onLeft = ahead(onLeft, first-1-k)
				onBoth = ahead(behind(onBoth, first+size+k), first-1-k)
				if !rb.May(onRight) || !rb.May(onLeft) || !rb.May(onBoth) {
					t.Fatalf("behind %d joins beside a tree of %d a tree may not be", k+1, size)
				}
			}
			seeRow(t, onRight, pairsFrom(first, size+60))
			seeRow(t, onLeft, pairsFrom(first-60, size+60))
			seeRow(t, onBoth, pairsFrom(first-60, size+120))
			if got := pairsOf(x); !rb.Part(x) || !slices.Equal(got, pairsFrom(first, size)) {
				t.Errorf("the tree that was there has the pairs %v", got)
			}
		}
	}
}

// TestInAnyOrder (P17.3, P17.1): a row that is parted anywhere, and joined again, by halves or not, has all its pairs.
func TestInAnyOrder(t *testing.T) {
	c := chance(21)
	var joined func(from, count int) *node.Node
	joined = func(from, count int) *node.Node {
		if count == 0 {
			return nil
		}
		left := c.below(count)
		p := pairAt(from + left)
		return rbjoin.Join(joined(from, left), p.Key, p.Val, joined(from+left+1, count-1-left))
	}
	for count := range 300 {
		seeRow(t, joined(0, count), pairsFrom(0, count))
	}
}

// seeEnds joins trees that may be anything, on either side; all that is asked of that is that it ends, tells the same of how many may be new whichever is named first, and leaves both as they are.
func seeEnds(t *testing.T, a, b *node.Node) {
	t.Helper()
	wasA, wasB := beadsOf(a), beadsOf(b)
	rbjoin.Join(a, 1, 2, b)
	rbjoin.Join(b, 3, 4, a)
	if rbjoin.Most(a, b) != rbjoin.Most(b, a) {
		t.Errorf("Most of trees of the tags %d and %d hangs on which is named first", a.Tag(), b.Tag())
	}
	if !slices.Equal(beadsOf(a), wasA) || !slices.Equal(beadsOf(b), wasB) {
		t.Errorf("a join of trees of the tags %d and %d changed them", a.Tag(), b.Tag())
	}
}

// never and second are which nodes of deep trees are red.
func never(int) bool    { return false }
func second(k int) bool { return k%2 == 1 }
func always(int) bool   { return true }

// TestAnyTagsEnd (R1): joins of trees of any tags end: 0, the greatest one, those that no int holds, tags far from the height.
func TestAnyTagsEnd(t *testing.T) {
	var l []*node.Node
	for _, tag := range tags() {
		l = append(l, tagged(tag), over(full(3), tag, nil), over(nil, tag, full(3)), over(tagged(tag), 2, tagged(tag)),
			black(tagged(tag), tagged(tag)), red(nil, over(tagged(tag), 1, tagged(top))), deepOver(tagged(tag), 9, zigzag, second), over(twins(5), tag, rubied(3, redLeft)))
	}
	l = append(l, nil, full(4), rubied(3, redByTurns), red(red(nil, nil), red(nil, red(nil, nil))))
	for _, a := range l {
		for _, b := range l {
			seeEnds(t, a, b)
		}
	}
}

// TestSpoiltEnd (R1): joins of trees that are parts but for some tags, or colours, and of such as stand in each other anyhow, end.
func TestSpoiltEnd(t *testing.T) {
	c := chance(22)
	for range 2000 {
		seeEnds(t, c.spoilt(c.anyPart(6), 1+c.below(30)), c.spoilt(c.anyPart(6), 1+c.below(30)))
	}
	for range 20 {
		l := c.grove(50)
		for _, a := range l {
			seeEnds(t, a, l[c.below(len(l))])
		}
	}
}

// TestJoinsOfWrongEnd (R1): what came of trees that are no parts, is joined again, and again.
func TestJoinsOfWrongEnd(t *testing.T) {
	c := chance(23)
	for range 30 {
		l := c.grove(20)
		for range 200 {
			x := rbjoin.Join(l[c.below(len(l))], 1, 2, l[c.below(len(l))])
			if x.Size() < 300 {
				l = append(l, x)
			}
		}
	}
}

// TestDeepEnd (R1): joins of trees that are as deep as they have nodes end, and need no memory of calls for each of them.
func TestDeepEnd(t *testing.T) {
	const deep = 200_000
	defer debug.SetMaxStack(debug.SetMaxStack(1 << 18))
	l := []*node.Node{nil, tagged(0), full(5), tagged(deep), tagged(top)}
	for way := range ways {
		for _, isRed := range []func(int) bool{never, second, always} {
			l = append(l, deepOver(nil, deep, way, isRed))
		}
		l = append(l, deepOver(full(3), deep, way, second), deepOver(tagged(top-deep), deep, way, second), deepOver(tagged(top-9), deep, way, never))
	}
	for _, a := range l {
		for _, b := range l {
			rbjoin.Join(a, 1, 2, b)
			rbjoin.Most(a, b)
		}
	}
}
