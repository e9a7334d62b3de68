package avljoin_test

import (
	"slices"
	"testing"

	"joinery/avl"
	"joinery/node"
)

// The turns that may be asked for.
const (
	noTurn = iota
	onceTurned
	twiceTurned
)

// asked is what a join asks for, if the pair is put in where both its sides may stand beside each other: a turn, and whether at the root; for how many nodes on the way up what was put in made their inner side higher, ahead of that; whether the tree is higher in the end.
type asked struct {
	lowOnLeft bool
	turn      int
	atRoot    bool
	grown     int
	isHigher  bool
}

// wayTo are the nodes of the higher tree on the side of the lower one, from the root on: all that are too high to stand beside that, and the first one that is not.
func wayTo(high, low *node.Node, inner func(*node.Node) *node.Node) []*node.Node {
	l := []*node.Node{high}
	for avl.Rank(l[len(l)-1])-avl.Rank(low) > 1 {
		l = append(l, inner(l[len(l)-1]))
	}
	return l
}

// asksFor tells what the join of two that may be asks for.
func asksFor(l, r *node.Node) asked {
	a := asked{lowOnLeft: avl.Rank(l) < avl.Rank(r)}
	high, low, outer, inner := l, r, (*node.Node).Left, (*node.Node).Right
	if a.lowOnLeft {
		high, low, outer, inner = r, l, inner, outer
	}
	way := wayTo(high, low, inner)
	last := way[len(way)-1]
	now := max(avl.Rank(last), avl.Rank(low)) + 1
	for place, n := range slices.Backward(way[:len(way)-1]) {
		beside := avl.Rank(outer(n))
		if now-beside > 1 {
			a.turn, a.atRoot = onceTurned, place == 0
			if a.grown == 0 && avl.Rank(last) > avl.Rank(low) {
				a.turn = twiceTurned
			}
			return a
		}
		if now = max(now, beside) + 1; now == avl.Rank(n) {
			return a
		}
		a.grown++
	}
	a.isHigher = true
	return a
}

// TestTurns (P15.1, P15.2): joins that are written out, of each kind, on either side.
func TestTurns(t *testing.T) {
	// The first one is innermost, each other one stands on the outer side of one more node above.
	inward := func(sides ...*node.Node) *node.Node {
		x := sides[0]
		for _, s := range sides[1:] {
			x = made(s, x)
		}
		return x
	}
	for low := range 7 {
		for _, c := range []struct {
			high *node.Node
			want asked
		}{
			{full(low), asked{isHigher: true}},
			{full(low + 1), asked{isHigher: true}},
			{inward(full(low+1), full(low)), asked{turn: twiceTurned, atRoot: true}},
			{inward(full(low), full(low+1)), asked{}},
			{inward(full(low+1), full(low+1)), asked{grown: 1, isHigher: true}},
			{inward(full(low+1), full(low+1), full(low+1)), asked{turn: onceTurned, atRoot: true, grown: 1}},
			{inward(full(low+1), full(low+2)), asked{}},
			{inward(full(low+1), full(low), full(low+2)), asked{turn: twiceTurned}},
			{inward(full(low+1), full(low), full(low+1)), asked{turn: twiceTurned}},
			{inward(full(low+1), full(low+1), full(low+3)), asked{grown: 1}},
			{inward(full(low+1), full(low+1), full(low+2)), asked{grown: 2, isHigher: true}},
			{inward(full(low+1), full(low+1), full(low+2), full(low+2)), asked{turn: onceTurned, atRoot: true, grown: 2}},
			{inward(full(low+1), full(low+1), full(low+1), full(low+2)), asked{turn: onceTurned, grown: 1}},
			{inward(full(low+1), full(low+1), full(low+1), full(low+4)), asked{turn: onceTurned, grown: 1}},
			{inward(full(low+1), full(low+1), full(low+2), full(low+2), full(low+3)), asked{turn: onceTurned, grown: 2}},
		} {
			seeTurn(t, c.high, full(low), c.want)
		}
	}
}

// seeTurn fails the test, unless a join asks for that, on either side, and is what it has to be.
func seeTurn(t *testing.T, high, low *node.Node, want asked) {
	t.Helper()
	seeAsked(t, high, low, want)
	// Of two of one rank none is the higher one.
	want.lowOnLeft = avl.Rank(high) > avl.Rank(low)
	seeAsked(t, mirrored(low), mirrored(high), want)
}

// seeAsked fails the test, unless a join asks for that, and is what it has to be.
func seeAsked(t *testing.T, l, r *node.Node, want asked) {
	t.Helper()
	if !avl.May(l) || !avl.May(r) {
		t.Fatalf("the test's own trees, of the ranks %d and %d, may not be", avl.Rank(l), avl.Rank(r))
	}
	if got := asksFor(l, r); got != want {
		t.Errorf("the join of trees of the ranks %d and %d asks for %+v, not %+v", avl.Rank(l), avl.Rank(r), got, want)
	}
	seeJoin(t, rising(l, 1), int64(l.Size())+1, -1, rising(r, l.Size()+2))
	x := seeJoin(t, shuffled(l), 3, 4, shuffled(r))
	if isHigher := avl.Rank(x) > max(avl.Rank(l), avl.Rank(r)); isHigher != want.isHigher {
		t.Errorf("the join of trees of the ranks %d and %d has the rank %d", avl.Rank(l), avl.Rank(r), avl.Rank(x))
	}
}

// mirrored is a tree turned about.
func mirrored(x *node.Node) *node.Node {
	if x == nil {
		return nil
	}
	return node.New(mirrored(x.Right()), x.Key(), x.Val(), x.Tag(), mirrored(x.Left()))
}

// TestLeaningTurns (P15.1, P15.2): trees that lean to the left everywhere, to the right everywhere, one way and the other by turns ask for turns of each kind, on either side.
func TestLeaningTurns(t *testing.T) {
	met := map[asked]int{}
	for high := range 11 {
		for side := range leans {
			for low := range 11 {
				for other := range leans {
					l, r := lean(high, side), lean(low, other)
					seeBoth(t, l, r)
					a := asksFor(l, r)
					a.grown = min(a.grown, 1)
					met[a]++
				}
			}
		}
	}
	for _, lowOnLeft := range []bool{false, true} {
		for _, atRoot := range []bool{false, true} {
			seeMet(t, met, asked{lowOnLeft: lowOnLeft, turn: twiceTurned, atRoot: atRoot})
		}
		seeMet(t, met, asked{lowOnLeft: lowOnLeft})
	}
}

// TestEachKind (P15.1, P15.2): trees of any shape ask for each kind of turn, at the root and deep down, and for none, and are higher in the end, or are not, though they were deep down.
func TestEachKind(t *testing.T) {
	c := chance(10)
	met := map[asked]int{}
	for range 4000 {
		l, r := c.balanced(c.below(8)), c.balanced(c.below(8))
		a := asksFor(l, r)
		a.grown = min(a.grown, 1)
		met[a]++
		x := seeJoin(t, shuffled(l), 1, 2, shuffled(r))
		if isHigher := avl.Rank(x) > max(avl.Rank(l), avl.Rank(r)); a.turn == noTurn && isHigher != a.isHigher {
			t.Errorf("the join of trees of the ranks %d and %d has the rank %d", avl.Rank(l), avl.Rank(r), avl.Rank(x))
		}
	}
	for _, a := range []asked{
		{turn: twiceTurned}, {turn: twiceTurned, atRoot: true},
		{turn: onceTurned, grown: 1}, {turn: onceTurned, atRoot: true, grown: 1},
		{}, {isHigher: true}, {grown: 1}, {grown: 1, isHigher: true},
	} {
		seeMet(t, met, a)
		a.lowOnLeft = true
		seeMet(t, met, a)
	}
}

// seeMet fails the test, unless what a join may ask for was met some times.
func seeMet(t *testing.T, met map[asked]int, a asked) {
	t.Helper()
	if met[a] < 3 {
		t.Errorf("of the test's own joins %d ask for %+v", met[a], a)
	}
}
