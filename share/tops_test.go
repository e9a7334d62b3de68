package share_test

import (
	"slices"
	"testing"

	"joinery/node"
	"joinery/share"
)

// TestTopsOfNothing (P13.2): the empty tree has no tops, nor has any tree without old ones, or with such as share nothing.
func TestTopsOfNothing(t *testing.T) {
	x := over(leaf(1), 2, leaf(3))
	seeTops(t, nil, nil)
	seeTops(t, nil, nil, nil)
	seeTops(t, nil, nil, x)
	seeTops(t, nil, nil, nil, x, x.Left())
	for _, tree := range []*node.Node{leaf(1), x, full(4), twinsOver(x, 5)} {
		seeTops(t, nil, tree)
		seeTops(t, nil, tree, list()...)
		seeTops(t, nil, tree, nil)
		seeTops(t, nil, tree, nil, nil)
		seeTops(t, nil, tree, leaf(1))
		seeTops(t, nil, tree, again(tree), nil, full(3))
	}
	seeTops(t, nil, leaf(1), leaf(1).With(1, 0))
}

// TestTopsOfItself (P13.2): of a tree that is an old one, or is part of one, it is the only top, whatever lies below it is old, too.
func TestTopsOfItself(t *testing.T) {
	for _, x := range []*node.Node{leaf(1), over(leaf(1), 2, leaf(3)), full(4), twinsOver(leaf(1), 5)} {
		seeTops(t, list(x), x, x)
		seeTops(t, list(x), x, x, x)
		seeTops(t, list(x), x, x.Left(), x, x.Right())
		seeTops(t, list(x), x, over(x, 9, nil))
		seeTops(t, list(x), x, over(nil, 9, over(leaf(8), 9, x)), x.Right())
		seeTops(t, list(x), x, leaf(9), nil, x)
	}
}

// TestTopsOfSides (P13.2): a new node, whose sides are old ones, both, or one of them.
func TestTopsOfSides(t *testing.T) {
	l, r := over(leaf(0), 1, nil), over(leaf(3), 4, leaf(5))
	x := over(l, 2, r)
	seeTops(t, list(l, r), x, l, r)
	seeTops(t, list(l, r), x, r, l)
	seeTops(t, list(l, r), x, over(r, 7, l))
	seeTops(t, list(l), x, l)
	seeTops(t, list(r), x, r)
	seeTops(t, list(l), over(l, 2, nil), l, r)
	seeTops(t, list(r), over(nil, 2, r), l, r)
	seeTops(t, list(l, r), x.With(7, 7), x)
	seeTops(t, list(r, l), over(r, 2, l), x)
	seeTops(t, list(l), over(l, 2, l), x)
	seeTops(t, list(l, r.Right()), over(l, 2, over(nil, 3, r.Right())), x)
}

// TestTopsDeepDown (P13.2): an old one that stands under many new nodes, on either side, alone or beside others.
func TestTopsDeepDown(t *testing.T) {
	old := over(leaf(1), 2, leaf(3))
	for way := range ways {
		x := deepOver(old, 60, way)
		seeTops(t, list(old), x, old)
		seeTops(t, list(old), x, over(nil, 9, old))
		seeTops(t, list(old.Left(), old.Right()), x, old.Right(), old.Left())
		seeTops(t, list(old.Right()), x, old.Right())
		seeTops(t, list(old), over(x, 9, leaf(2)), old)
		seeTops(t, list(old), over(leaf(2), 9, x), old)
	}
}

// TestTopsTwice (P13.2): an old one that stands in the tree twice, under new nodes, is told once, where it is met first.
func TestTopsTwice(t *testing.T) {
	a, b, c := leaf(1), over(leaf(2), 3, nil), over(nil, 4, leaf(5))
	old := over(a, 0, over(b, 0, c))
	seeTops(t, list(a), over(a, 9, a), old)
	seeTops(t, list(a), over(over(nil, 8, a), 9, over(a, 8, nil)), old)
	seeTops(t, list(a, b), over(over(a, 8, b), 9, a), old)
	seeTops(t, list(b, a), over(b, 9, over(a, 8, b)), old)
	seeTops(t, list(b, a, c), over(over(b, 7, a), 9, over(over(b, 6, c), 8, a)), old)
	seeTops(t, list(c, b, a), over(over(c, 7, over(c, 6, b)), 9, over(a, 8, over(b, 5, c))), old)
	// A new node that stands there twice has its tops where it is met first, too.
	both := over(b, 7, a)
	seeTops(t, list(b, a, c), over(both, 9, over(c, 8, both)), old)
	seeTops(t, list(c, b, a), over(over(c, 8, both), 9, both), old)
	seeTops(t, list(b, a), twinsOver(both, 7), old)
	seeTops(t, list(b, a, c), over(over(both, 6, c), 9, over(a, 5, both)), old)
}

// TestTopsUnderOld (P13.2): an old one that stands under an old one is no top, unless it stands elsewhere under new ones alone: then it is told there, also where it was passed by before.
func TestTopsUnderOld(t *testing.T) {
	a := leaf(1)
	b := over(a, 2, leaf(3))
	c := over(nil, 4, b)
	seeTops(t, list(b), over(b, 9, nil), b)
	seeTops(t, list(b), over(nil, 9, b), a, b)
	seeTops(t, list(b, a), over(b, 9, a), b)
	seeTops(t, list(a, b), over(a, 9, b), b)
	seeTops(t, list(c, a), over(c, 9, over(leaf(7), 8, a)), c)
	seeTops(t, list(a, c), over(over(a, 7, leaf(7)), 9, c), c)
	seeTops(t, list(c, b, a), over(c, 9, over(b, 8, a)), c)
	seeTops(t, list(b, c, a), over(b, 9, over(c, 8, a)), c)
	seeTops(t, list(a, c, b), over(over(a, 8, c), 9, over(b, 7, a)), c)
	seeTops(t, list(c, b.Right()), over(c, 9, over(nil, 8, b.Right())), c, a)
}

// TestTopsOfNestedOld (P13.2): old ones that lie within each other, or are the same, or overlap, however they are named.
func TestTopsOfNestedOld(t *testing.T) {
	a := over(leaf(1), 2, leaf(3))
	b := over(a, 4, leaf(5))
	c := over(leaf(6), 7, a)
	x := over(over(b, 8, nil), 9, over(c, 10, leaf(11)))
	seeTops(t, list(b, c), x, a, b, c)
	seeTops(t, list(b, c), x, c, b, a, b, nil, c)
	seeTops(t, list(b, a), x, a, b)
	seeTops(t, list(a, c), x, c)
	seeTops(t, list(b, c), x, c, b)
	seeTops(t, list(a, b.Right()), x, a, b.Right())
	seeTops(t, list(a, c.Left()), x, over(a, 0, c.Left()))
	seeTops(t, list(a.Left(), a.Right()), x, a.Right(), a.Left())
	seeTops(t, list(x.Left(), c), x, x.Left(), c)
	seeTops(t, list(b, x.Right()), x, b, x.Right(), a)
}

// TestTopsInOrder (P13.2): from left to right, where a top stands to the left of a new node, and others to its right, at any depth, whatever their keys are and in whatever order the old ones are named.
func TestTopsInOrder(t *testing.T) {
	a, b, c, d := leaf(5), leaf(-5), over(leaf(5), 0, nil), over(nil, 9, leaf(5))
	olds := [][]*node.Node{list(a, b, c, d), list(d, c, b, a), list(over(d, 0, b), nil, over(c, 0, a)), list(b, d, b, a, c, a)}
	for _, old := range olds {
		seeTops(t, list(a, b), over(a, 1, b), old...)
		seeTops(t, list(a, b, c), over(a, 1, over(b, 2, c)), old...)
		seeTops(t, list(a, b, c), over(over(a, 2, b), 1, c), old...)
		seeTops(t, list(d, c, b, a), over(over(d, 2, c), 1, over(b, 3, a)), old...)
		seeTops(t, list(d, c, b, a), over(d, 1, over(c, 2, over(b, 3, a))), old...)
		seeTops(t, list(d, c, b, a), over(over(over(d, 3, c), 2, b), 1, a), old...)
		seeTops(t, list(b, d, a, c), over(b, 1, over(over(d, 3, a), 2, c)), old...)
		seeTops(t, list(b, d, a, c), over(over(b, 2, over(d, 3, a)), 1, c), old...)
		seeTops(t, list(c, a, d), over(over(leaf(5), 2, c), 1, over(over(a, 4, leaf(0)), 3, d)), old...)
	}
}

// TestTopsOfAny (P13.1, P13.2): trees that share nodes in any way: all calls are held against the chapter's words.
func TestTopsOfAny(t *testing.T) {
	c := chance(13)
	many := 0
	for range 250 {
		l := c.grove(8 + c.below(40))
		for range 12 {
			x, old := l[c.below(len(l))], c.some(l, c.below(4))
			want := topsOf(x, old...)
			if len(want) > 2 {
				many++
			}
			seeTops(t, want, x, old...)
			seeNew(t, newOf(x, old...), x, old...)
			y := l[c.below(len(l))]
			seeNodes(t, x, len(nodesOf(x)))
			seeSame(t, x, y, len(nodesOf(x))-newOf(x, y))
			seeIn(t, x, y, nodesOf(x)[y])
		}
	}
	if many < 200 {
		t.Errorf("of the test's own trees %d have more than two tops", many)
	}
}

// TestTopsAreNew (P13.2, R4, R5): each answer is a list of its own, empty where there is nothing; the list of the old ones stays as it was.
func TestTopsAreNew(t *testing.T) {
	a, b, other := leaf(1), leaf(2), leaf(3)
	x := over(a, 9, b)
	old := append(make([]*node.Node, 0, 8), b, nil, a)
	room := old[:8]
	first := share.Tops(x, old...)
	second := share.Tops(x, old...)
	if !slices.Equal(first, list(a, b)) || !slices.Equal(second, first) {
		t.Fatalf("the tops have the keys %v, then %v", keys(first), keys(second))
	}
	first[0], first[1] = other, other
	_ = append(first[:1], other)
	if !slices.Equal(second, list(a, b)) {
		t.Error("two answers are one list")
	}
	seeTops(t, list(a, b), x, old...)
	if !slices.Equal(room, list(b, nil, a, nil, nil, nil, nil, nil)) {
		t.Errorf("the list of the old ones became %v", keys(room))
	}
	// The old ones' list is not kept: another one in the same memory is another one.
	old[0], old[2] = other, other
	seeTops(t, nil, x, old...)
	seeTops(t, list(a, b), x, second...)
	for _, l := range [][]*node.Node{share.Tops(nil), share.Tops(x), share.Tops(nil, x), share.Tops(x, other)} {
		if len(l) != 0 {
			t.Errorf("where there is nothing, there are %v", keys(l))
		}
	}
}
