package rb_test

import (
	"testing"

	"joinery/api"
	"joinery/node"
	"joinery/rb"
)

// halfUp is half of a height, rounded up.
func halfUp(high int) int { return high/2 + high%2 }

// seeHigh fails the test, unless a tree of that height may be, and has as many nodes, and as many black ones on a way, as its height asks for.
func seeHigh(t *testing.T, x *node.Node, high int) {
	t.Helper()
	seeMay(t, x)
	if least := 1<<halfUp(high) - 1; x.Size() < least {
		t.Errorf("a tree of the height %d has %d nodes, less than %d", high, x.Size(), least)
	}
	if rb.High(x) < halfUp(high) || rb.Rank(x) < high {
		t.Errorf("a tree of the height %d has the black height %d, the rank %d", high, rb.High(x), rb.Rank(x))
	}
}

// TestHighAsBlack (P16.3): trees that may be, of any shape, the fullest and the leanest among them.
func TestHighAsBlack(t *testing.T) {
	c := chance(4)
	for high := range 10 {
		seeHigh(t, full(high), high)
		for oneOf := range 4 {
			for range 10 {
				x := c.blackPart(high%7, 1+oneOf)
				seeHigh(t, x, heightOf(x))
			}
		}
	}
	for high := range 5 {
		seeHigh(t, crowded(high), 2*high)
	}
	for count := range 12 {
		for _, x := range partsOf(count) {
			if rb.May(x) {
				seeHigh(t, x, heightOf(x))
			}
		}
	}
}

// TestEachHeight (P16.3): of each height there are trees, as lean as may be; their black height is no more than half of it, rounded up.
func TestEachHeight(t *testing.T) {
	for high := range 16 {
		for side := range leans {
			x := lean(high, side, full)
			seeHigh(t, x, high)
			if x.Size() != leastOf(high) || heightOf(x) != high || rb.High(x) != halfUp(high) {
				t.Errorf("a leanest tree of the height %d has %d nodes, the height %d, the black height %d", high, x.Size(), heightOf(x), rb.High(x))
			}
		}
	}
	beside := twinsOf(60)
	for high := range 120 {
		for side := range leans {
			x := lean(high, side, func(high int) *node.Node { return beside[high] })
			seeHigh(t, x, high)
			if x.Size() != leastOf(high) || rb.High(x) != halfUp(high) {
				t.Errorf("a leanest tree of the height %d has %d nodes, the black height %d", high, x.Size(), rb.High(x))
			}
		}
	}
}

// TestLeastByAll (P16.3): of all trees of so many nodes, the highest that may be is so high as that number lets it be, and no other.
func TestLeastByAll(t *testing.T) {
	for count := range 13 {
		highest := 0
		for _, x := range partsOf(count) {
			if !isOdd(x) {
				highest = max(highest, heightOf(x))
			}
		}
		if leastOf(highest) > count || leastOf(highest+1) <= count {
			t.Errorf("the highest tree of %d nodes has the height %d", count, highest)
		}
	}
}

// seeBlackened fails the test, unless a part may be as soon as it is made black, with as many nodes, and the rank that it had.
func seeBlackened(t *testing.T, x *node.Node) {
	t.Helper()
	if !rb.Part(x) {
		t.Errorf("a tree of the size %d, the tag %d, is no part", x.Size(), x.Tag())
	}
	y := rb.Blacken(x)
	seeMay(t, y)
	if y.Size() != x.Size() || y.Sum() != x.Sum() || rb.Rank(y) != rb.Rank(x) || rb.Rank(y) != 2*rb.High(y) {
		t.Errorf("Blacken of a part of the size %d, the rank %d: %d, %d", x.Size(), rb.Rank(x), y.Size(), rb.Rank(y))
	}
}

// TestBlackenPart (P16.3): parts of any shape, all small ones among them.
func TestBlackenPart(t *testing.T) {
	c := chance(5)
	for count := range 12 {
		for _, x := range partsOf(count) {
			seeBlackened(t, x)
		}
	}
	for range 300 {
		seeBlackened(t, c.part(c.below(7), 1+c.below(4)))
	}
	for high := range 60 {
		x := twins(high)
		seeBlackened(t, x)
		seeBlackened(t, red(x, x))
	}
}

// TestMakeOfParts (P16.1, P16.2): what is made of two parts is a part just where both are as high in black, and, if it is to be red, none of them is; else it is wrong by its root.
func TestMakeOfParts(t *testing.T) {
	c := chance(6)
	var l []*node.Node
	for high := range 6 {
		for oneOf := range 3 {
			l = append(l, c.part(high, 1+oneOf), c.blackPart(high, 1+oneOf))
		}
	}
	for _, a := range l {
		for _, b := range l {
			if rb.High(a) != rb.High(b) {
				seeFault(t, black(a, b), 0, api.ErrTree)
				seeFault(t, red(a, b), 0, api.ErrTree)
				continue
			}
			seeMay(t, black(a, b))
			if rb.Red(a) || rb.Red(b) {
				seeFault(t, red(a, b), 0, api.ErrTree)
			} else {
				seeRedPart(t, red(a, b))
			}
		}
	}
}

// seen is what a node tells.
type seen struct {
	left, right   *node.Node
	key, val, sum int64
	tag           uint64
	size          int
}

// look is what all nodes of these trees tell.
func look(trees []*node.Node) map[*node.Node]seen {
	at := map[*node.Node]seen{}
	for _, x := range trees {
		for _, n := range beadsOf(x) {
			at[n] = seen{n.Left(), n.Right(), n.Key(), n.Val(), n.Sum(), n.Tag(), n.Size()}
		}
	}
	return at
}

// told is all that is answered of a tree.
type told struct {
	at           int
	e            api.Errno
	may, part    bool
	red          bool
	high, rank   int
	blackenedTag uint64
}

// ask asks all that there is of a tree.
func ask(x *node.Node) told {
	at, e := rb.Check(x)
	return told{at, e, rb.May(x), rb.Part(x), rb.Red(x), rb.High(x), rb.Rank(x), rb.Blacken(x).Tag()}
}

// TestTreesStay (R5, R6, P16.1, P16.2): no call changes a tree, and an answer hangs on what is given alone: asked again, behind others, it is the same.
func TestTreesStay(t *testing.T) {
	c := chance(7)
	trees := append(c.grove(40), full(5), crowded(3), lean(6, leftHigh, full), c.spoilt(c.part(4, 2), 5), twins(7), deepOver(nil, 50, zigzag, second), tagged(top), tagged(0))
	then := look(trees)
	var first []told
	for round := range 3 {
		for k, x := range trees {
			answer := ask(x)
			for _, y := range trees {
				rb.Make(x, 1, 2, round == 1, y)
			}
			if round == 0 {
				first = append(first, answer)
			}
			if answer != first[k] || ask(x) != first[k] {
				t.Errorf("%+v became %+v", first[k], answer)
			}
		}
	}
	now := look(trees)
	if len(now) != len(then) {
		t.Errorf("%d nodes became %d", len(then), len(now))
	}
	for n, was := range then {
		if now[n] != was {
			t.Errorf("%+v became %+v", was, now[n])
		}
	}
}
