package wb_test

import (
	"math"
	"testing"

	"joinery/node"
	"joinery/wb"
)

// seeMade fails the test, unless a node of these was made, of the tag 0.
func seeMade(t *testing.T, l *node.Node, key, val int64, r *node.Node) {
	t.Helper()
	n := wb.Make(l, key, val, r)
	if n == nil || n.Left() != l || n.Right() != r {
		t.Fatalf("Make of trees of the sizes %d and %d does not have both as they are", l.Size(), r.Size())
	}
	if n.Key() != key || n.Val() != val {
		t.Errorf("Make of %d, %d has %d, %d", key, val, n.Key(), n.Val())
	}
	if n.Tag() != 0 {
		t.Errorf("Make of trees of the tags %d and %d has the tag %d", l.Tag(), r.Tag(), n.Tag())
	}
	if n.Size() != l.Size()+1+r.Size() || n.Sum() != l.Sum()+val+r.Sum() {
		t.Errorf("Make of trees of the sizes %d and %d has %d, the sum %d", l.Size(), r.Size(), n.Size(), n.Sum())
	}
	if n == wb.Make(l, key, val, r) {
		t.Error("Make made one node twice")
	}
}

// TestExample (P18.1): the chapter's own.
func TestExample(t *testing.T) {
	if !wb.Like(1, 2) || wb.Like(1, 3) {
		t.Errorf("Like(1, 2): %t, Like(1, 3): %t", wb.Like(1, 2), wb.Like(1, 3))
	}
	for _, x := range append(shapes(6, 0), halved(7)) {
		if got := wb.Rank(x); got != 2 {
			t.Errorf("Rank of 6 nodes: %d", got)
		}
	}
	for _, x := range append(shapes(7, 0), halved(8)) {
		if got := wb.Rank(x); got != 3 {
			t.Errorf("Rank of 7 nodes: %d", got)
		}
	}
}

// TestMakeEmpty (P18.1): of two empty trees, with keys and values of all sizes.
func TestMakeEmpty(t *testing.T) {
	for _, key := range numbers() {
		for _, val := range numbers() {
			seeMade(t, nil, key, val, nil)
		}
	}
}

// TestMakeOne (P18.1): of an empty tree and another one, on either side, and of the same one on both.
func TestMakeOne(t *testing.T) {
	for k, x := range []*node.Node{leaf(), made(leaf(), nil), made(nil, leaf()), halved(9), lean(7, zigzag, halved), deepOver(nil, 30, rightward), twins(40)} {
		seeMade(t, x, numberAt(k), numberAt(k+1), nil)
		seeMade(t, nil, numberAt(k+2), numberAt(k+3), x)
		seeMade(t, x, numberAt(k+4), numberAt(k+5), x)
	}
}

// TestMakeUnlike (P18.1): of trees whose weights are alike, and of such whose weights are far from it, on either side.
func TestMakeUnlike(t *testing.T) {
	weights := []int{1, 2, 3, 7, 29, 71, 72, 1000, 1 << 40, 1<<40 + 1, 1 << 60}
	for k, a := range weights {
		for m, b := range weights {
			seeMade(t, heavy(a), numberAt(k), numberAt(m), heavy(b))
		}
	}
}

// TestMakeTags (P18.1): whatever tags the sides have, and the nodes below them, what is made of them has the tag 0.
func TestMakeTags(t *testing.T) {
	for k, a := range append(tags(), 0) {
		for m, b := range append(tags(), 0) {
			seeMade(t, tagged(a), numberAt(k), numberAt(m), tagged(b))
			seeMade(t, over(tagged(b), a, nil), numberAt(m), numberAt(k), over(nil, b, tagged(top)))
		}
		seeMade(t, tagged(a), 1, 2, nil)
		seeMade(t, nil, 3, 4, tagged(a))
	}
}

// seeWeight fails the test, unless a tree has that weight, and that rank.
func seeWeight(t *testing.T, x *node.Node, weight, rank int) {
	t.Helper()
	if got := wb.Weight(x); got != weight {
		t.Errorf("Weight of a tree of the size %d is %d, not %d", x.Size(), got, weight)
	}
	if got := wb.Rank(x); got != rank {
		t.Errorf("Rank of a tree of the size %d is %d, not %d", x.Size(), got, rank)
	}
}

// TestWeightSmall (P18.1): of the empty tree, one node, and few.
func TestWeightSmall(t *testing.T) {
	a := leaf()
	for _, c := range []struct {
		x            *node.Node
		weight, rank int
	}{
		{nil, 1, 0}, {a, 2, 1}, {tagged(top), 2, 1}, {made(a, nil), 3, 1}, {made(nil, a), 3, 1}, {made(a, a), 4, 2}, {over(a, 9, tagged(3)), 4, 2},
		{deepOver(nil, 3, leftward), 4, 2}, {made(made(a, nil), a), 5, 2}, {halved(6), 6, 2}, {halved(7), 7, 2}, {halved(8), 8, 3}, {halved(9), 9, 3}, {deepOver(nil, 15, zigzag), 16, 4},
	} {
		seeWeight(t, c.x, c.weight, c.rank)
	}
}

// TestWeightCounts (P18.1): of trees of any shape, with any tags and keys, as many nodes as are counted, and 1.
func TestWeightCounts(t *testing.T) {
	c := chance(1)
	for _, x := range append(c.grove(300), shapes(7, 0)...) {
		weight, rank := countOf(x)+1, 0
		for 2<<rank <= weight {
			rank++
		}
		seeWeight(t, x, weight, rank)
	}
}

// TestWeightPowers (P18.1): just below, at, and just above each power of 2 that an int holds.
func TestWeightPowers(t *testing.T) {
	for rank := 2; rank < 63; rank++ {
		for _, x := range []*node.Node{heavy(1 << rank), twins(rank)} {
			seeWeight(t, x, 1<<rank, rank)
			seeWeight(t, over(x.Left(), top, x.Right()), 1<<rank, rank)
		}
		seeWeight(t, heavy(1<<rank-1), 1<<rank-1, rank-1)
		seeWeight(t, heavy(1<<rank+1), 1<<rank+1, rank)
		seeWeight(t, made(heavy(1<<rank), nil), 1<<rank+1, rank)
		seeWeight(t, made(heavy(1<<rank-2), nil), 1<<rank-1, rank-1)
		seeWeight(t, heavy(3<<(rank-1)), 3<<(rank-1), rank)
	}
	seeWeight(t, heavy(math.MaxInt64), math.MaxInt64, 62)
	seeWeight(t, heavy(math.MaxInt64-1), math.MaxInt64-1, 62)
}

// TestWeightAgain (P18.1): trees that stand in themselves, and in others, on both sides, again and again.
func TestWeightAgain(t *testing.T) {
	x, weight, rank := leaf(), 2, 1
	for range 60 {
		seeWeight(t, x, weight, rank)
		x, weight, rank = made(x, x), 2*weight, rank+1
	}
	// Each one stands in the next but one, too: their weights rise as the numbers of Fibonacci do.
	a, b := leaf(), made(leaf(), nil)
	l, r := 2, 3
	for b.Size() < 1<<61 {
		rank = 0
		for 2<<rank <= r {
			rank++
		}
		seeWeight(t, b, r, rank)
		a, b = b, made(a, b)
		l, r = r, l+r
	}
}
