package avl_test

import (
	"math"
	"testing"

	"joinery/api"
	"joinery/avl"
	"joinery/node"
)

// seeMade fails the test, unless a node of these was made, with that tag.
func seeMade(t *testing.T, l *node.Node, key, val int64, r *node.Node, tag uint64) {
	t.Helper()
	n := avl.Make(l, key, val, r)
	if n == nil || n.Left() != l || n.Right() != r {
		t.Fatalf("Make of trees of the tags %d and %d does not have both as they are", l.Tag(), r.Tag())
	}
	if n.Key() != key || n.Val() != val {
		t.Errorf("Make of %d, %d has %d, %d", key, val, n.Key(), n.Val())
	}
	if n.Tag() != tag {
		t.Errorf("Make of trees of the tags %d and %d has %d, not %d", l.Tag(), r.Tag(), n.Tag(), tag)
	}
	if n.Size() != l.Size()+1+r.Size() || n.Sum() != l.Sum()+val+r.Sum() {
		t.Errorf("Make of trees of the sizes %d and %d has %d, the sum %d", l.Size(), r.Size(), n.Size(), n.Sum())
	}
	if n == avl.Make(l, key, val, r) {
		t.Error("Make made one node twice")
	}
}

// TestExample (P14.1, P14.2): the chapter's own.
func TestExample(t *testing.T) {
	x := avl.Make(nil, 1, 0, avl.Make(nil, 2, 0, nil))
	if x.Tag() != 2 || avl.Rank(x) != 2 || avl.Lean(x) != 1 {
		t.Errorf("tag %d, rank %d, lean %d", x.Tag(), avl.Rank(x), avl.Lean(x))
	}
	seeMay(t, x)
	seeCheck(t, avl.Make(nil, 0, 0, x), 0, api.ErrTree)
}

// TestMakeEmpty (P14.1): of two empty trees, with keys and values of all sizes.
func TestMakeEmpty(t *testing.T) {
	for _, key := range numbers() {
		for _, val := range numbers() {
			seeMade(t, nil, key, val, nil, 1)
		}
	}
}

// TestMakeTags (P14.1): of tags that are written out: an empty tree on either side, equal ones, unlike ones, the greatest one, where one more is 0.
func TestMakeTags(t *testing.T) {
	for _, c := range []struct{ low, high, want uint64 }{
		{0, 0, 1}, {0, 1, 2}, {1, 1, 2}, {1, 2, 3}, {2, 2, 3}, {0, 9, 10}, {1, 99, 100}, {99, 99, 100}, {7, 1 << 32, 1<<32 + 1},
		{0, 1<<63 - 1, 1 << 63}, {1<<63 - 1, 1<<63 - 1, 1 << 63}, {1, 1 << 63, 1<<63 + 1}, {1<<63 - 1, 1 << 63, 1<<63 + 1},
		{0, top - 1, top}, {1<<63 - 1, top - 1, top}, {top - 1, top - 1, top}, {0, top, 0}, {1, top, 0}, {1 << 63, top, 0}, {top - 1, top, 0}, {top, top, 0},
	} {
		low, high := tagged(c.low), tagged(c.high)
		seeMade(t, low, 1, 2, high, c.want)
		seeMade(t, high, 3, 4, low, c.want)
		if c.low == 0 {
			seeMade(t, nil, -1, 2, high, c.want)
			seeMade(t, high, 3, -4, nil, c.want)
		}
		if c.low == c.high {
			seeMade(t, low, 5, 6, low, c.want)
		}
	}
}

// TestMakeAnyTags (P14.1): of any two tags; the root's tag alone counts, whatever lies below it.
func TestMakeAnyTags(t *testing.T) {
	for k, a := range tags() {
		for m, b := range tags() {
			want := a
			if b > a {
				want = b
			}
			want++
			seeMade(t, tagged(a), numberAt(k), numberAt(m), tagged(b), want)
			l := over(tagged(top), a, tagged(b))
			r := over(over(nil, 1<<63, nil), b, tagged(a))
			seeMade(t, l, numberAt(m), numberAt(k), r, want)
		}
	}
}

// TestRank (P14.1): a tree's tag, as an int: 0 of the empty tree, of small tags, of those that no int holds; whatever lies below the root.
func TestRank(t *testing.T) {
	if got := avl.Rank(nil); got != 0 {
		t.Errorf("Rank of the empty tree is %d", got)
	}
	for _, c := range []struct {
		tag  uint64
		want int
	}{
		{0, 0}, {1, 1}, {2, 2}, {99, 99}, {1 << 32, 1 << 32}, {1<<63 - 1, math.MaxInt64},
		{1 << 63, math.MinInt64}, {1<<63 + 1, math.MinInt64 + 1}, {top - 1, -2}, {top, -1},
	} {
		for _, x := range []*node.Node{tagged(c.tag), over(tagged(7), c.tag, nil), over(nil, c.tag, tagged(7)), over(tagged(top), c.tag, tagged(0))} {
			if got := avl.Rank(x); got != c.want {
				t.Errorf("Rank of a tree of the tag %d is %d", c.tag, got)
			}
		}
	}
	for high := range 10 {
		if got := avl.Rank(full(high)); got != high {
			t.Errorf("Rank of a full tree of the height %d is %d", high, got)
		}
	}
}

// leanCase is what the tags of both sides come to; 0 is the empty tree's, too.
type leanCase struct {
	left, right uint64
	want        int
}

// leanCases are written out: either one is the greater one, none is, an int holds the difference, or does not.
func leanCases() []leanCase {
	return []leanCase{
		{0, 0, 0}, {1, 1, 0}, {top, top, 0}, {1 << 63, 1 << 63, 0},
		{0, 1, 1}, {1, 0, -1}, {2, 1, -1}, {1, 2, 1}, {3, 1, -2}, {1, 3, 2}, {5, 99, 94}, {99, 5, -94},
		{0, 1<<63 - 1, math.MaxInt64}, {1<<63 - 1, 0, -math.MaxInt64}, {1, 1 << 63, math.MaxInt64}, {1 << 63, 1, -math.MaxInt64},
		{0, 1 << 63, math.MinInt64}, {1 << 63, 0, math.MinInt64}, {1, 1<<63 + 1, math.MinInt64}, {1<<63 - 1, top, math.MinInt64},
		{0, 1<<63 + 1, math.MinInt64 + 1}, {1<<63 + 1, 0, math.MaxInt64}, {0, top, -1}, {top, 0, 1}, {1, top, -2}, {top, 1, 2},
		{0, top - 1, -2}, {top - 1, 0, 2}, {top - 1, top, 1}, {top, top - 1, -1}, {1 << 63, top, math.MaxInt64}, {top, 1 << 63, -math.MaxInt64},
	}
}

// seeLean fails the test, unless Lean tells that.
func seeLean(t *testing.T, x *node.Node, want int) {
	t.Helper()
	if got := avl.Lean(x); got != want {
		t.Errorf("Lean of a tree with %d on the left, %d on the right, is %d, not %d", x.Left().Tag(), x.Right().Tag(), got, want)
	}
}

// TestLean (P14.1): the right side's tag, less the left one's, whatever the node's own tag is; an empty side counts 0.
func TestLean(t *testing.T) {
	seeLean(t, nil, 0)
	for _, c := range leanCases() {
		l, r := tagged(c.left), tagged(c.right)
		for _, tag := range []uint64{0, 1, 1 << 63, top} {
			seeLean(t, over(l, tag, r), c.want)
			if c.left == 0 {
				seeLean(t, over(nil, tag, r), c.want)
			}
			if c.right == 0 {
				seeLean(t, over(l, tag, nil), c.want)
			}
		}
		seeLean(t, made(l, r), c.want)
		seeLean(t, over(over(tagged(9), c.left, nil), 5, over(nil, c.right, tagged(8))), c.want)
	}
}

// TestRankAndLeanHeights (P14.1): of trees that were made from nothing on, the height, and by how much one side is higher.
func TestRankAndLeanHeights(t *testing.T) {
	for _, x := range smallShapes(7) {
		if got := avl.Rank(x); got != heightOf(x) {
			t.Errorf("Rank of a tree of the height %d is %d", heightOf(x), got)
		}
		seeLean(t, x, heightOf(x.Right())-heightOf(x.Left()))
	}
}
