package wb_test

import (
	"testing"

	"joinery/api"
	"joinery/node"
	"joinery/wb"
)

// seeHigh fails the test, unless a tree may be, no side of a node weighs more than 71 of its 100 parts, and the tree weighs as much as its height asks for.
func seeHigh(t *testing.T, x *node.Node) {
	t.Helper()
	seeMay(t, x)
	been := map[*node.Node]bool{nil: true}
	var goTo func(n *node.Node)
	goTo = func(n *node.Node) {
		if been[n] {
			return
		}
		been[n] = true
		for _, side := range []*node.Node{n.Left(), n.Right()} {
			if 100*wb.Weight(side) > 71*wb.Weight(n) {
				t.Errorf("a side of a node of the weight %d has %d", wb.Weight(n), wb.Weight(side))
			}
			goTo(side)
		}
	}
	goTo(x)
	if least := leastOf(heightOf(x)); wb.Weight(x) < least {
		t.Errorf("a tree of the height %d has the weight %d, less than %d", heightOf(x), wb.Weight(x), least)
	}
}

// TestLeastRow: the row that the tests go by begins as the chapter has it: 1, 100 of 71 parts of that, rounded up, and so on.
func TestLeastRow(t *testing.T) {
	for high, want := range []int{1, 2, 3, 5, 8, 12, 17, 24} {
		if got := leastOf(high); got != want {
			t.Errorf("the least weight of the height %d is %d, not %d", high, got, want)
		}
	}
}

// TestShares (P18.3): trees that may be, of any weight and shape.
func TestShares(t *testing.T) {
	c := chance(5)
	for weight := 1; weight < 300; weight++ {
		seeHigh(t, halved(weight))
		seeHigh(t, c.balanced(weight))
	}
	for range 100 {
		seeHigh(t, c.balanced(1+c.below(3000)))
	}
	for power := range 42 {
		seeHigh(t, twins(power))
		seeHigh(t, heavy(3<<power/4+1))
	}
	for count := range 13 {
		for _, x := range balancedOf(count) {
			seeHigh(t, x)
		}
	}
}

// TestEachHeight (P18.3): of each height, as long as weights are no greater than they may be, there are trees, the leanest of which weigh just so much.
func TestEachHeight(t *testing.T) {
	few := heavies{}
	for high := 0; high == 0 || leastOf(high-1) <= most; high++ {
		for side := range leans {
			x := lean(high, side, few.of)
			if high < 20 {
				x = lean(high, side, halved)
			}
			seeHigh(t, x)
			if wb.Weight(x) != leastOf(high) || heightOf(x) != high {
				t.Errorf("a leanest tree of the height %d has the weight %d, the height %d", high, wb.Weight(x), heightOf(x))
			}
		}
	}
}

// TestLeastByAll (P18.3): of all trees of so many nodes, the highest that may be is so high as their weight lets it be, and no higher.
func TestLeastByAll(t *testing.T) {
	for count := range 14 {
		highest := 0
		for _, x := range balancedOf(count) {
			if !wb.May(x) {
				t.Errorf("a tree of %d nodes, whose sides weigh alike, may not be", count)
			}
			highest = max(highest, heightOf(x))
		}
		if leastOf(highest) > count+1 || leastOf(highest+1) <= count+1 {
			t.Errorf("the highest tree of %d nodes has the height %d", count, highest)
		}
	}
}

// seePair fails the test, unless what is made of two that may be, may be just where their weights are alike, and else is wrong by its root.
func seePair(t *testing.T, l, r *node.Node) {
	t.Helper()
	x := made(l, r)
	if wb.Like(wb.Weight(l), wb.Weight(r)) {
		seeMay(t, x)
		return
	}
	seeCheck(t, x, 0, api.ErrTree)
}

// TestMakeOfTwo (P18.4): of any two that may be, on either side, the empty tree among them, one on both sides, and very heavy ones.
func TestMakeOfTwo(t *testing.T) {
	c := chance(6)
	var l []*node.Node
	for weight := 1; weight < 20; weight++ {
		l = append(l, halved(weight), c.balanced(weight*7), lean(weight, weight%leans, halved), twins(weight))
	}
	for by := range 3 {
		l = append(l, heavy(most-by), heavy(most+by), heavy(449096298671-by), heavy(2*most-by))
	}
	for _, a := range l {
		for _, b := range l {
			seePair(t, a, b)
		}
	}
}

// TestMakeAgain (P18.4): what may be, and was made, is made into others, again and again.
func TestMakeAgain(t *testing.T) {
	c := chance(7)
	l := []*node.Node{nil}
	for range 4000 {
		a, b := l[c.below(len(l))], l[c.below(len(l))]
		if a.Size()+b.Size() > 1000 {
			continue
		}
		seePair(t, a, b)
		if x := made(a, b); wb.May(x) {
			seeHigh(t, x)
			l = append(l, x)
		}
	}
	if len(l) < 100 {
		t.Errorf("the test made %d trees alone", len(l))
	}
}

// seen is what a node tells.
type seen struct {
	left, right   *node.Node
	key, val, sum int64
	tag           uint64
	size          int
}

// look is what all nodes of these trees tell.
func look(trees []*node.Node) map[*node.Node]seen {
	at := map[*node.Node]seen{}
	for _, x := range trees {
		for _, n := range beadsOf(x) {
			at[n] = seen{n.Left(), n.Right(), n.Key(), n.Val(), n.Sum(), n.Tag(), n.Size()}
		}
	}
	return at
}

// told is all that is answered of a tree.
type told struct {
	at           int
	e            api.Errno
	may          bool
	weight, rank int
}

// ask asks all that there is of a tree.
func ask(x *node.Node) told {
	at, e := wb.Check(x)
	return told{at, e, wb.May(x), wb.Weight(x), wb.Rank(x)}
}

// TestTreesStay (R5, R6, P18.1, P18.2): no call changes a tree, and an answer hangs on what is given alone: asked again, behind others, it is the same.
func TestTreesStay(t *testing.T) {
	c := chance(8)
	trees := append(c.grove(40), halved(50), lean(6, leftHeavy, halved), c.spoilt(c.balanced(60), 5), twins(7), deepOver(nil, 50, zigzag), tagged(top), tagged(0))
	then := look(trees)
	var first []told
	for round := range 3 {
		for k, x := range trees {
			answer := ask(x)
			for _, y := range trees {
				wb.Make(x, 1, 2, y)
				wb.Like(wb.Weight(x), wb.Weight(y))
			}
			if round == 0 {
				first = append(first, answer)
			}
			if answer != first[k] || ask(x) != first[k] {
				t.Errorf("%+v became %+v", first[k], answer)
			}
		}
	}
	now := look(trees)
	if len(now) != len(then) {
		t.Errorf("%d nodes became %d", len(then), len(now))
	}
	for n, was := range then {
		if now[n] != was {
			t.Errorf("%+v became %+v", was, now[n])
		}
	}
}
