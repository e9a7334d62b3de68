package wbjoin_test

import (
	"runtime/debug"
	"slices"
	"testing"

	"joinery/api"
	"joinery/node"
	"joinery/wb"
	"joinery/wbjoin"
)

// pairAt is a pair for each place.
func pairAt(place int) api.Pair { return api.Pair{Key: int64(place), Val: numberAt(place)} }

// pairsFrom are those of so many places.
func pairsFrom(from, count int) []api.Pair {
	var l []api.Pair
	for k := range count {
		l = append(l, pairAt(from+k))
	}
	return l
}

// seeRow fails the test, unless a tree may be, and has just these pairs.
func seeRow(t *testing.T, x *node.Node, want []api.Pair) {
	t.Helper()
	if at, e := wb.Check(x); at != len(want) || e != api.OK || !wb.May(x) {
		t.Fatalf("Check of a tree of %d joins: %d, %v", len(want), at, e)
	}
	if got := pairsOf(x); !slices.Equal(got, want) {
		t.Errorf("a tree of %d joins has the pairs %v, not %v", len(want), got, want)
	}
}

// behind is a tree, and the pair of a place behind it.
func behind(x *node.Node, place int) *node.Node {
	p := pairAt(place)
	return wbjoin.Join(x, p.Key, p.Val, nil)
}

// ahead is a tree, and the pair of a place ahead of it.
func ahead(x *node.Node, place int) *node.Node {
	p := pairAt(place)
	return wbjoin.Join(nil, p.Key, p.Val, x)
}

// TestFromLeft (P19.3): single pairs, from left to right.
func TestFromLeft(t *testing.T) {
	var x *node.Node
	for count := range 500 {
		seeRow(t, x, pairsFrom(0, count))
		x = behind(x, count)
	}
}

// TestFromRight (P19.3): single pairs, from right to left.
func TestFromRight(t *testing.T) {
	var x *node.Node
	for count := range 500 {
		seeRow(t, x, pairsFrom(-count+1000, count))
		x = ahead(x, 1000-count-1)
	}
}

// TestFromBothEnds (P19.3): single pairs, from both ends by turns.
func TestFromBothEnds(t *testing.T) {
	var x *node.Node
	from, count := 1000, 0
	for range 250 {
		x = behind(x, from+count)
		count++
		seeRow(t, x, pairsFrom(from, count))
		from--
		x = ahead(x, from)
		count++
		seeRow(t, x, pairsFrom(from, count))
	}
}

// TestManyPairs (P19.3): many single pairs, either way, and on the way each tree has as many as were joined, and its root's sides are alike.
func TestManyPairs(t *testing.T) {
	const many = 60_000
	var l, r *node.Node
	for k := range many {
		l, r = behind(l, k), ahead(r, many-1-k)
		for _, x := range []*node.Node{l, r} {
			if x.Size() != k+1 || x.Tag() != 0 || !areAlike(weightOf(x.Left()), weightOf(x.Right())) {
				t.Fatalf("of %d joins: the size %d, the sides' weights %d and %d", k+1, x.Size(), weightOf(x.Left()), weightOf(x.Right()))
			}
		}
	}
	all := pairsFrom(0, many)
	seeRow(t, l, all)
	seeRow(t, r, all)
}

// TestBesideTree (P19.3): single pairs ahead of, and behind, a tree that was there, of any shape.
func TestBesideTree(t *testing.T) {
	c := chance(20)
	for weight := 1; weight < 300; weight += 1 + weight/8 {
		for how := range leans + 1 {
			shape := c.balanced(weight, 2)
			if how < leans {
				shape = lean(weight, how, 0)
			}
			first, size := 5000, shape.Size()
			x, _ := withPairs(shape, first, pairAt)
			onRight, onLeft, onBoth := x, x, x
			for k := range 60 {
				onRight = behind(onRight, first+size+k)
				onLeft = ahead(onLeft, first-1-k)
				onBoth = ahead(behind(onBoth, first+size+k), first-1-k)
				if !wb.May(onRight) || !wb.May(onLeft) || !wb.May(onBoth) {
					t.Fatalf("behind %d joins beside a tree of %d a tree may not be", k+1, size)
				}
			}
			seeRow(t, onRight, pairsFrom(first, size+60))
			seeRow(t, onLeft, pairsFrom(first-60, size+60))
			seeRow(t, onBoth, pairsFrom(first-60, size+120))
			if got := pairsOf(x); !wb.May(x) || !slices.Equal(got, pairsFrom(first, size)) {
				t.Errorf("the tree that was there has the pairs %v", got)
			}
		}
	}
}

// TestBesideHeavy (P19.3): single pairs ahead of, and behind, a tree of very many nodes.
func TestBesideHeavy(t *testing.T) {
	for how := range leans {
		x := heavies{}.of(spot{most - 100, how, 0})
		for k := range 40 {
			x = seeHeavy(t, x, int64(k), 1, nil)
			x = seeHeavy(t, nil, int64(-k), 2, x)
		}
	}
}

// TestInAnyOrder (P19.3, P19.1): a row that is parted anywhere, and joined again, by halves or not, has all its pairs.
func TestInAnyOrder(t *testing.T) {
	c := chance(21)
	var joined func(from, count int) *node.Node
	joined = func(from, count int) *node.Node {
		if count == 0 {
			return nil
		}
		left := c.below(count)
		p := pairAt(from + left)
		return wbjoin.Join(joined(from, left), p.Key, p.Val, joined(from+left+1, count-1-left))
	}
	for count := range 300 {
		seeRow(t, joined(0, count), pairsFrom(0, count))
	}
}

// seeEnds joins trees that may be anything, each with each; all that is asked of that is that it ends, tells the same of how many may be new whichever is named first, and leaves all of them as they are.
func seeEnds(t *testing.T, l []*node.Node) {
	t.Helper()
	var was [][]bead
	for _, x := range l {
		was = append(was, beadsOf(x))
	}
	for _, a := range l {
		for _, b := range l {
			wbjoin.Join(a, 1, 2, b)
			if wbjoin.Most(a, b) != wbjoin.Most(b, a) {
				t.Errorf("Most of trees of the weights %d and %d hangs on which is named first", weightOf(a), weightOf(b))
			}
		}
	}
	for k, x := range l {
		if !isAsItWas(was[k]) {
			t.Errorf("joins of a tree of the weight %d changed it", weightOf(x))
		}
	}
}

// TestTaggedEnd (R1): joins of trees that have tags end: at the root, below it, everywhere.
func TestTaggedEnd(t *testing.T) {
	l := []*node.Node{nil, leaf(), lean(50, leftHeavy, 0), lean(9, rightHeavy, 0)}
	for _, tag := range tags() {
		l = append(l, tagged(tag), over(lean(30, noneHeavy, 0), tag, lean(20, noneHeavy, 0)), over(nil, tag, heavy(9)), over(tagged(tag), tag, tagged(tag)),
			made(lean(40, turnsHeavy, 0), over(leaf(), tag, nil)), deepOver(tagged(tag), 9, zigzag), over(twins(5), tag, lean(12, othersHeavy, 0)))
	}
	seeEnds(t, l)
}

// TestSpoiltEnd (R1): joins of trees that may be but for some nodes, and of such as stand in each other anyhow, end.
func TestSpoiltEnd(t *testing.T) {
	c := chance(22)
	for range 20 {
		var l []*node.Node
		for range 30 {
			l = append(l, c.spoilt(c.anyTree(200), 1+c.below(30)))
		}
		seeEnds(t, l)
		seeEnds(t, c.grove(50))
	}
}

// TestSteepEnd (R1): joins of all small trees that may not be, and of such as are as deep as they have nodes, end.
func TestSteepEnd(t *testing.T) {
	shapes := [][]*node.Node{{nil}}
	for count := 1; count < 6; count++ {
		var all []*node.Node
		for left := range count {
			for _, l := range shapes[left] {
				for _, r := range shapes[count-1-left] {
					all = append(all, made(l, r))
				}
			}
		}
		shapes = append(shapes, all)
	}
	l := slices.Concat(shapes...)
	for way := range ways {
		l = append(l, deepOver(nil, 30, way), deepOver(lean(20, way, 0), 30, way))
	}
	seeEnds(t, l)
}

// TestJoinsOfWrongEnd (R1): what came of trees that may not be, is joined again, and again.
func TestJoinsOfWrongEnd(t *testing.T) {
	c := chance(23)
	for range 30 {
		l := c.grove(20)
		for range 200 {
			x := wbjoin.Join(l[c.below(len(l))], 1, 2, l[c.below(len(l))])
			if x.Size() < 300 {
				l = append(l, x)
			}
		}
	}
}

// TestTooHeavyEnd (R1): joins of trees that weigh more than they may, each or together, end; so do those of trees whose sizes go round.
func TestTooHeavyEnd(t *testing.T) {
	l := []*node.Node{nil, leaf(), lean(30, turnsHeavy, 0), deepOver(nil, 100, zigzag)}
	for _, weight := range []int{1 << 20, most, most + 1, most + 2, 2 * most, 2*most + 1, 1 << 61, 1<<62 + 5} {
		h := heavies{}
		for how := range leans {
			l = append(l, h.of(spot{weight, how, 0}))
		}
	}
	for _, high := range []int{39, 40, 41, 42, 61, 62, 63, 64, 65, 80, 3000} {
		x := twins(high)
		l = append(l, x, made(x, nil), made(nil, x), made(x, made(x, leaf())), over(x, top, x.Left()), deepOver(x, 50, zigzag))
	}
	seeEnds(t, l)
}

// TestDeepEnd (R1): joins of trees that are as deep as they have nodes end, and need no memory of calls for each of them.
func TestDeepEnd(t *testing.T) {
	const deep = 100_000
	defer debug.SetMaxStack(debug.SetMaxStack(1 << 18))
	l := []*node.Node{nil, leaf(), tagged(top), heavy(33), heavy(deep), heavy(most)}
	for way := range ways {
		l = append(l, deepOver(nil, deep, way), deepOver(heavy(8), deep, way), deepOver(twins(62), deep, way), deepOver(twins(64), deep, way), deepOver(tagged(9), deep, way))
	}
	for _, a := range l {
		for _, b := range l {
			wbjoin.Join(a, 1, 2, b)
			wbjoin.Most(a, b)
		}
	}
}
