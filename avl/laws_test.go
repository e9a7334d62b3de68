package avl_test

import (
	"testing"

	"joinery/api"
	"joinery/avl"
	"joinery/node"
)

// seeHigh fails the test, unless a tree may be, is as high as its tag, and has as many nodes as its height asks for.
func seeHigh(t *testing.T, x *node.Node) {
	t.Helper()
	seeMay(t, x)
	high := heightOf(x)
	if x.Tag() != uint64(high) || avl.Rank(x) != high {
		t.Errorf("a tree of the height %d has the tag %d, the rank %d", high, x.Tag(), avl.Rank(x))
	}
	if least := fib(high+2) - 1; x.Size() < least {
		t.Errorf("a tree of the height %d has %d nodes, less than %d", high, x.Size(), least)
	}
}

// TestHighAsTag (P14.3): trees that may be, of any shape, are as high as their tags, and have no fewer nodes than those of their height.
func TestHighAsTag(t *testing.T) {
	c := chance(3)
	for high := range 13 {
		seeHigh(t, full(high))
		for range 40 {
			seeHigh(t, c.balanced(high))
		}
	}
	for _, x := range smallShapes(9) {
		if avl.May(x) {
			seeHigh(t, x)
		}
	}
}

// TestEachHeight (P14.3): of each height there are trees, the leanest of which have as few nodes as that.
func TestEachHeight(t *testing.T) {
	for high := range 20 {
		for side := range leans {
			x := lean(high, side)
			seeHigh(t, x)
			if x.Size() != fib(high+2)-1 || heightOf(x) != high {
				t.Errorf("a leanest tree of the height %d has %d nodes, the height %d", high, x.Size(), heightOf(x))
			}
		}
	}
}

// TestLeastByAll (P14.3): of all trees of so many nodes, the highest that may be is so high as that number lets it be, and no other.
func TestLeastByAll(t *testing.T) {
	for count := range 13 {
		highest := 0
		for _, x := range balancedOf(count) {
			seeHigh(t, x)
			highest = max(highest, heightOf(x))
		}
		if fib(highest+2)-1 > count || fib(highest+3)-1 <= count {
			t.Errorf("the highest tree of %d nodes has the height %d", count, highest)
		}
	}
}

// balancedOf are all trees of so many nodes that may be.
func balancedOf(count int) []*node.Node {
	if count == 0 {
		return []*node.Node{nil}
	}
	var all []*node.Node
	for left := range count {
		for _, l := range balancedOf(left) {
			for _, r := range balancedOf(count - 1 - left) {
				if d := heightOf(l) - heightOf(r); -1 <= d && d <= 1 {
					all = append(all, made(l, r))
				}
			}
		}
	}
	return all
}

// seePair fails the test, unless what is made of two that may be, may be just where their ranks differ by 1 at most, and else is wrong by its root.
func seePair(t *testing.T, l, r *node.Node) {
	t.Helper()
	x := made(l, r)
	d := avl.Rank(l) - avl.Rank(r)
	if avl.Lean(x) != -d {
		t.Errorf("Lean of a tree made of the ranks %d and %d is %d", avl.Rank(l), avl.Rank(r), avl.Lean(x))
	}
	if -1 <= d && d <= 1 {
		seeMay(t, x)
		return
	}
	seeCheck(t, x, 0, api.ErrTree)
}

// TestMakeOfTwo (P14.4): of any two that may be, on either side, the empty tree among them, and one on both sides.
func TestMakeOfTwo(t *testing.T) {
	c := chance(4)
	var l []*node.Node
	for high := range 9 {
		l = append(l, full(high), lean(high, leftHigh), lean(high, rightHigh), c.balanced(high), twins(high))
	}
	for _, a := range l {
		for _, b := range l {
			seePair(t, a, b)
		}
	}
}

// TestMakeAgain (P14.4): what may be, and was made, is made into others, again and again.
func TestMakeAgain(t *testing.T) {
	c := chance(5)
	l := []*node.Node{nil}
	for range 2000 {
		a, b := l[c.below(len(l))], l[c.below(len(l))]
		if a.Size()+b.Size() > 1000 {
			continue
		}
		seePair(t, a, b)
		if x := made(a, b); avl.May(x) {
			seeHigh(t, x)
			l = append(l, x)
		}
	}
	if len(l) < 100 {
		t.Errorf("the test made %d trees alone", len(l))
	}
}

// seen is what a node tells.
type seen struct {
	left, right   *node.Node
	key, val, sum int64
	tag           uint64
	size          int
}

// look is what all nodes of these trees tell.
func look(trees []*node.Node) map[*node.Node]seen {
	at := map[*node.Node]seen{}
	for _, x := range trees {
		for _, n := range beadsOf(x) {
			at[n] = seen{n.Left(), n.Right(), n.Key(), n.Val(), n.Sum(), n.Tag(), n.Size()}
		}
	}
	return at
}

// told is all that is answered of a tree.
type told struct {
	at         int
	e          api.Errno
	may        bool
	rank, lean int
}

// ask asks all that there is of a tree.
func ask(x *node.Node) told {
	at, e := avl.Check(x)
	return told{at, e, avl.May(x), avl.Rank(x), avl.Lean(x)}
}

// TestTreesStay (R5, R6, P14.1): no call changes a tree, and an answer hangs on what is given alone: asked again, behind others, it is the same.
func TestTreesStay(t *testing.T) {
	c := chance(6)
	trees := append(c.grove(40), full(5), lean(6, leftHigh), c.spoilt(full(5), 5), twins(7), deepOver(nil, 50, zigzag), tagged(top), tagged(0))
	then := look(trees)
	var first []told
	for round := range 3 {
		for k, x := range trees {
			answer := ask(x)
			for _, y := range trees {
				avl.Make(x, 1, 2, y)
			}
			if round == 0 {
				first = append(first, answer)
			}
			if answer != first[k] || ask(x) != first[k] {
				t.Errorf("%+v became %+v", first[k], answer)
			}
		}
	}
	now := look(trees)
	if len(now) != len(then) {
		t.Errorf("%d nodes became %d", len(then), len(now))
	}
	for n, was := range then {
		if now[n] != was {
			t.Errorf("%+v became %+v", was, now[n])
		}
	}
}
