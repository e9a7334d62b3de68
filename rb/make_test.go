package rb_test

import (
	"math"
	"testing"

	"joinery/node"
	"joinery/rb"
)

// seeMade fails the test, unless a node of these was made, with that tag.
func seeMade(t *testing.T, l *node.Node, key, val int64, isRed bool, r *node.Node, tag uint64) {
	t.Helper()
	n := rb.Make(l, key, val, isRed, r)
	if n == nil || n.Left() != l || n.Right() != r {
		t.Fatalf("Make of trees of the tags %d and %d does not have both as they are", l.Tag(), r.Tag())
	}
	if n.Key() != key || n.Val() != val {
		t.Errorf("Make of %d, %d has %d, %d", key, val, n.Key(), n.Val())
	}
	if n.Tag() != tag {
		t.Errorf("Make of trees of the tags %d and %d, red: %t, has %d, not %d", l.Tag(), r.Tag(), isRed, n.Tag(), tag)
	}
	if n.Size() != l.Size()+1+r.Size() || n.Sum() != l.Sum()+val+r.Sum() {
		t.Errorf("Make of trees of the sizes %d and %d has %d, the sum %d", l.Size(), r.Size(), n.Size(), n.Sum())
	}
	if n == rb.Make(l, key, val, isRed, r) {
		t.Error("Make made one node twice")
	}
}

// seeColour fails the test, unless Red, High and Rank tell that.
func seeColour(t *testing.T, x *node.Node, isRed bool, high, rank int) {
	t.Helper()
	if rb.Red(x) != isRed || rb.High(x) != high || rb.Rank(x) != rank {
		t.Errorf("a tree of the tag %d: red %t, high %d, rank %d, not %t, %d, %d", x.Tag(), rb.Red(x), rb.High(x), rb.Rank(x), isRed, high, rank)
	}
}

// TestExample (P16.1, P16.2): the chapter's own.
func TestExample(t *testing.T) {
	b := rb.Make(nil, 1, 0, false, nil)
	if b.Tag() != 2 {
		t.Errorf("the black one has the tag %d", b.Tag())
	}
	seeColour(t, b, false, 1, 2)
	seeMay(t, b)
	r := rb.Make(nil, 1, 0, true, nil)
	if r.Tag() != 1 {
		t.Errorf("the red one has the tag %d", r.Tag())
	}
	seeColour(t, r, true, 0, 2)
	seeRedPart(t, r)
	if got := rb.Blacken(r).Tag(); got != 2 {
		t.Errorf("the red one, made black, has the tag %d", got)
	}
}

// TestMakeEmpty (P16.1): of two empty trees, red and black, with keys and values of all sizes.
func TestMakeEmpty(t *testing.T) {
	for _, key := range numbers() {
		for _, val := range numbers() {
			seeMade(t, nil, key, val, true, nil, 1)
			seeMade(t, nil, key, val, false, nil, 2)
		}
	}
}

// TestMakeTags (P16.1): over left sides whose tags are written out: each as a node of that tag alone, as one with others below it, and, where it is 0, as the empty tree. What lies on the right does not count, empty or not.
func TestMakeTags(t *testing.T) {
	for _, c := range []struct{ left, asRed, asBlack uint64 }{
		{0, 1, 2}, {1, 1, 2}, {2, 3, 4}, {3, 3, 4}, {4, 5, 6}, {5, 5, 6}, {98, 99, 100}, {99, 99, 100}, {1 << 32, 1<<32 + 1, 1<<32 + 2},
		{1<<63 - 2, 1<<63 - 1, 1 << 63}, {1<<63 - 1, 1<<63 - 1, 1 << 63}, {1 << 63, 1<<63 + 1, 1<<63 + 2}, {1<<63 + 1, 1<<63 + 1, 1<<63 + 2},
		{top - 3, top - 2, top - 1}, {top - 2, top - 2, top - 1}, {top - 1, top, 0}, {top, top, 0},
	} {
		lefts := []*node.Node{tagged(c.left), over(tagged(8), c.left, nil), over(tagged(top), c.left, tagged(1<<63))}
		if c.left == 0 {
			lefts = append(lefts, nil)
		}
		for k, l := range lefts {
			for m, tag := range tags() {
				for _, r := range []*node.Node{tagged(tag), over(nil, tag, tagged(3)), nil, l} {
					seeMade(t, l, numberAt(k), numberAt(m), true, r, c.asRed)
					seeMade(t, l, numberAt(m), numberAt(k), false, r, c.asBlack)
				}
			}
		}
	}
}

// TestMakeUnlike (P16.1): of trees of unlike black heights, on either side.
func TestMakeUnlike(t *testing.T) {
	for low := range 6 {
		for high := low; high < 6; high++ {
			for _, a := range []*node.Node{full(low), crowded(low % 4)} {
				b := full(high)
				seeMade(t, a, 1, 2, false, b, uint64(2*rb.High(a)+2))
				seeMade(t, a, 1, 2, true, b, uint64(2*rb.High(a)+1))
				seeMade(t, b, 3, 4, false, a, uint64(2*high+2))
				seeMade(t, b, 3, 4, true, a, uint64(2*high+1))
			}
		}
	}
}

// colourCase is what a tag tells, and what becomes of it when it is made black.
type colourCase struct {
	tag        uint64
	isRed      bool
	high, rank int
	blackened  uint64
}

// colourCases are written out: small tags, those on both sides of what an int holds, the greatest ones.
func colourCases() []colourCase {
	return []colourCase{
		{0, false, 0, 0, 0}, {1, true, 0, 2, 2}, {2, false, 1, 2, 2}, {3, true, 1, 4, 4}, {4, false, 2, 4, 4}, {5, true, 2, 6, 6},
		{98, false, 49, 98, 98}, {99, true, 49, 100, 100}, {1 << 32, false, 1 << 31, 1 << 32, 1 << 32},
		{1<<63 - 2, false, 1<<62 - 1, math.MaxInt64 - 1, 1<<63 - 2}, {1<<63 - 1, true, 1<<62 - 1, math.MinInt64, 1 << 63},
		{1 << 63, false, 1 << 62, math.MinInt64, 1 << 63}, {1<<63 + 1, true, 1 << 62, math.MinInt64 + 2, 1<<63 + 2},
		{top - 2, true, math.MaxInt64 - 1, -2, top - 1}, {top - 1, false, math.MaxInt64, -2, top - 1}, {top, true, math.MaxInt64, 0, 0},
	}
}

// around are trees of that tag, whatever lies below the root.
func around(tag uint64) []*node.Node {
	a, b := tagged(7), tagged(top)
	return []*node.Node{node.New(nil, -3, 4, tag, nil), node.New(a, 5, -6, tag, nil), node.New(nil, 7, 8, tag, b), node.New(b, -9, 10, tag, a), node.New(a, 0, 0, tag, a)}
}

// TestColour (P16.1): Red, High and Rank of the empty tree, and of each tag that is written out, whatever lies below the root.
func TestColour(t *testing.T) {
	seeColour(t, nil, false, 0, 0)
	for _, c := range colourCases() {
		for _, x := range around(c.tag) {
			seeColour(t, x, c.isRed, c.high, c.rank)
		}
	}
}

// TestColourMade (P16.1): Red, High and Rank of trees that were made from nothing on.
func TestColourMade(t *testing.T) {
	for high := range 10 {
		x := full(high)
		seeColour(t, x, false, high, 2*high)
		seeColour(t, red(x, x), true, high, 2*high+2)
		seeColour(t, black(x, x), false, high+1, 2*high+2)
	}
	for high := range 5 {
		x := crowded(high)
		seeColour(t, x, false, high, 2*high)
		seeColour(t, red(x, x), true, high, 2*high+2)
	}
}

// TestBlacken (P16.1): the empty tree and a black one stay the very same; of a red one a node like it comes, with a tag that is 1 more, which is 0 over the greatest one. What was there stays.
func TestBlacken(t *testing.T) {
	if rb.Blacken(nil) != nil {
		t.Error("Blacken of the empty tree is not empty")
	}
	for _, c := range colourCases() {
		for _, x := range around(c.tag) {
			y := rb.Blacken(x)
			if !c.isRed && y != x {
				t.Errorf("Blacken of the tag %d is another tree", c.tag)
			}
			if y.Tag() != c.blackened || y.Left() != x.Left() || y.Right() != x.Right() || y.Key() != x.Key() || y.Val() != x.Val() {
				t.Errorf("Blacken of the tag %d: %d, or another side, key or value", c.tag, y.Tag())
			}
			if c.isRed && (y == x || y == rb.Blacken(x) || x.Tag() != c.tag) {
				t.Errorf("Blacken of the tag %d is no new node, or changed the old one", c.tag)
			}
			if y.Size() != x.Size() || y.Sum() != x.Sum() {
				t.Errorf("Blacken of the tag %d has the size %d, the sum %d", c.tag, y.Size(), y.Sum())
			}
			if rb.Red(y) || rb.Blacken(y) != y {
				t.Errorf("Blacken of the tag %d is not black", c.tag)
			}
		}
	}
}
