package rbjoin_test

import (
	"testing"

	"joinery/node"
	"joinery/rb"
)

// What is met above the last turn, or, if there was none, above the pair.
const (
	blackAbove = iota
	nothingAbove
	redRootAbove
)

// asked is what a join asks for, if the pair is put in, red, where nothing is higher in black than the lower tree is: how many turns, the first one of which is a double one, as what the pair stands above is red, each other one a single one, as the last one has left a red node below another one; and what is met there.
type asked struct {
	lowOnLeft bool
	turns     int
	above     int
}

// wayTo are the nodes of the higher tree on the side of the lower one, from the root on: all that are higher in black than that, and the first one that is not.
func wayTo(high *node.Node, low int, inner func(*node.Node) *node.Node) []*node.Node {
	l := []*node.Node{high}
	for rb.High(l[len(l)-1]) > low {
		l = append(l, inner(l[len(l)-1]))
	}
	return l
}

// asksFor tells what the join of two parts asks for.
func asksFor(l, r *node.Node) asked {
	a := asked{lowOnLeft: rankOf(l) < rankOf(r)}
	if differ(l, r) == 0 {
		a.above = nothingAbove
		return a
	}
	high, low, inner := l, r, (*node.Node).Right
	if a.lowOnLeft {
		high, low, inner = r, l, (*node.Node).Left
	}
	way := wayTo(high, rankOf(low)/2, inner)
	place := len(way) - 1
	for place > 0 && isOdd(way[place]) {
		a.turns++
		place -= 2
	}
	switch {
	case place < 0:
		a.above = nothingAbove
	case place == 0 && isOdd(high):
		a.above = redRootAbove
	}
	return a
}

// wayOf is a part whose right side, again and again, has these colours, from the root on, R or B, and below that only black nodes, so high; beside that way, too, there are red nodes or not.
func wayOf(colours string, high int, isRedBeside bool) *node.Node {
	x := full(high)
	for k := range len(colours) {
		colour := colours[len(colours)-1-k]
		beside := full(rb.High(x))
		if isRedBeside && colour == 'B' {
			beside = red(beside, full(rb.High(x)))
		}
		x = rb.Make(beside, 3, 4, colour == 'R', x)
	}
	return x
}

// mirrored is a tree turned about.
func mirrored(x *node.Node) *node.Node {
	if x == nil {
		return nil
	}
	return node.New(mirrored(x.Right()), x.Key(), x.Val(), x.Tag(), mirrored(x.Left()))
}

// TestTurns (P17.1, P17.2): joins that are written out, with no turn, a double one, and single ones behind that, on either side, with a black lower tree and a red one.
func TestTurns(t *testing.T) {
	for low := range 4 {
		for _, c := range []struct {
			colours string
			want    asked
		}{
			{"", asked{above: nothingAbove}},
			{"R", asked{above: redRootAbove}},
			{"B", asked{}},
			{"RB", asked{}},
			{"BB", asked{}},
			{"BRB", asked{}},
			{"RBRB", asked{}},
			{"BR", asked{turns: 1, above: nothingAbove}},
			{"RBR", asked{turns: 1, above: redRootAbove}},
			{"BBR", asked{turns: 1}},
			{"BRBBR", asked{turns: 1}},
			{"RBBR", asked{turns: 1}},
			{"BRBR", asked{turns: 2, above: nothingAbove}},
			{"RBRBR", asked{turns: 2, above: redRootAbove}},
			{"BBRBR", asked{turns: 2}},
			{"RBBRBR", asked{turns: 2}},
			{"BRBRBR", asked{turns: 3, above: nothingAbove}},
			{"RBRBRBR", asked{turns: 3, above: redRootAbove}},
			{"BBRBRBR", asked{turns: 3}},
			{"BRBBRBRBR", asked{turns: 3}},
			{"BRBRBRBR", asked{turns: 4, above: nothingAbove}},
		} {
			for _, isRedBeside := range []bool{false, true} {
				high := wayOf(c.colours, low, isRedBeside)
				seeTurn(t, high, full(low), c.want)
				if low > 0 {
					seeTurn(t, high, red(full(low-1), full(low-1)), c.want)
					seeTurn(t, high, red(rubied(low-1, redBoth), full(low-1)), c.want)
				}
			}
		}
	}
}

// seeTurn fails the test, unless a join asks for that, on either side, and is what it has to be.
func seeTurn(t *testing.T, high, low *node.Node, want asked) {
	t.Helper()
	seeAsked(t, high, low, want)
	// Of two of one rank none is the higher one.
	want.lowOnLeft = rankOf(high) > rankOf(low)
	seeAsked(t, mirrored(low), mirrored(high), want)
}

// seeAsked fails the test, unless a join asks for that, and is what it has to be.
func seeAsked(t *testing.T, l, r *node.Node, want asked) {
	t.Helper()
	if got := asksFor(l, r); got != want {
		t.Errorf("the join of trees of the tags %d and %d asks for %+v, not %+v", l.Tag(), r.Tag(), got, want)
	}
	seeJoin(t, rising(l, 1), int64(l.Size())+1, -1, rising(r, l.Size()+2))
	seeJoin(t, shuffled(l), 3, 4, shuffled(r))
}

// TestRedEverywhere (P17.1, P17.2): trees with red nodes on the left everywhere, on the right everywhere, one way and the other by turns, on both sides ask for turns of each kind, up to the root and not, on either side.
func TestRedEverywhere(t *testing.T) {
	met := map[asked]int{}
	for half := range 7 {
		for place := range places {
			a := rubied(half, place)
			shapes := []*node.Node{a}
			if half < 6 {
				shapes = append(shapes, red(a, rubied(half, place)))
			}
			for low := range 5 {
				for _, b := range []*node.Node{full(low), rubied(low/2, place), red(full(low/2), full(low/2))} {
					for _, x := range shapes {
						seeBoth(t, x, b)
						met[asksFor(x, b)]++
						met[asksFor(b, x)]++
					}
				}
			}
		}
	}
	for _, lowOnLeft := range []bool{false, true} {
		for turns := 1; turns < 6; turns++ {
			seeMet(t, met, asked{lowOnLeft: lowOnLeft, turns: turns, above: nothingAbove})
			seeMet(t, met, asked{lowOnLeft: lowOnLeft, turns: turns, above: redRootAbove})
		}
		seeMet(t, met, asked{lowOnLeft: lowOnLeft})
		seeMet(t, met, asked{lowOnLeft: lowOnLeft, turns: 1})
	}
}

// TestEachKind (P17.1, P17.2): trees of any shape ask for no turn, for one, and for more, up to the root or not, on either side; some have 2 more than the greater rank, some have that.
func TestEachKind(t *testing.T) {
	c := chance(11)
	met := map[asked]int{}
	risen := map[int]int{}
	for range 3000 {
		l, r := c.anyPart(6), c.anyPart(6)
		met[asksFor(l, r)]++
		x := seeJoin(t, shuffled(l), 1, 2, shuffled(r))
		risen[rb.Rank(x)-max(rankOf(l), rankOf(r))]++
	}
	for _, lowOnLeft := range []bool{false, true} {
		for turns := range 3 {
			for _, above := range []int{blackAbove, nothingAbove, redRootAbove} {
				// Of two of one rank, the only ones that ask for no turn and meet nothing above, none is the higher one.
				if turns > 0 || above == blackAbove || !lowOnLeft {
					seeMet(t, met, asked{lowOnLeft: lowOnLeft, turns: turns, above: above})
				}
			}
		}
	}
	if risen[0] < 100 || risen[2] < 100 || len(risen) != 2 {
		t.Errorf("of the test's own joins so many have more than the greater rank: %v", risen)
	}
}

// seeMet fails the test, unless what a join may ask for was met some times.
func seeMet(t *testing.T, met map[asked]int, a asked) {
	t.Helper()
	if met[a] < 3 {
		t.Errorf("of the test's own joins %d ask for %+v", met[a], a)
	}
}
