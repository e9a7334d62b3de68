package avljoin_test

import (
	"math"
	"slices"
	"testing"

	"joinery/api"
	"joinery/avl"
	"joinery/avljoin"
	"joinery/node"
)

// TestExample (P15.1): the chapter's own.
func TestExample(t *testing.T) {
	one := seeJoin(t, nil, 1, 10, nil)
	if one.Tag() != 1 || one.Size() != 1 || one.Key() != 1 || one.Val() != 10 {
		t.Errorf("of two empty trees: %v", beadsOf(one))
	}
	two := seeJoin(t, one, 2, 20, nil)
	if two.Size() != 2 || two.Tag() != 2 {
		t.Errorf("of one: %v", beadsOf(two))
	}
	three := seeJoin(t, two, 3, 30, nil)
	want := []api.Pair{{Key: 1, Val: 10}, {Key: 2, Val: 20}, {Key: 3, Val: 30}}
	if avl.Rank(three) != 2 || !slices.Equal(pairsOf(three), want) {
		t.Errorf("of two: %v", beadsOf(three))
	}
}

// TestEmpty (P15.1): of two empty trees, with keys and values of all sizes.
func TestEmpty(t *testing.T) {
	for _, key := range numbers() {
		for _, val := range numbers() {
			x := seeJoin(t, nil, key, val, nil)
			if x.Tag() != 1 || x.Left() != nil || x.Right() != nil {
				t.Errorf("of two empty trees: %v", beadsOf(x))
			}
		}
	}
}

// shapesOf are trees that may be of a height: the leanest ones, the full one, and others, as many as that.
func shapesOf(c *chance, high, others int) []*node.Node {
	l := []*node.Node{full(high)}
	for side := range leans {
		l = append(l, lean(high, side))
	}
	for range others {
		l = append(l, c.balanced(high))
	}
	return l
}

// TestHeights (P15.1, P15.2): trees of two heights, equal ones, such as differ by 1, by 2, by 3, by very much, the empty tree among them, as lean as may be, as full as may be, and others, the higher one on either side.
func TestHeights(t *testing.T) {
	c := chance(1)
	for high := range 8 {
		for low := range high + 1 {
			for _, a := range shapesOf(&c, high, 3) {
				for _, b := range shapesOf(&c, low, 3) {
					seeBoth(t, a, b)
				}
			}
		}
	}
}

// TestFarHigher (P15.1, P15.2): trees whose heights differ by very much, on either side.
func TestFarHigher(t *testing.T) {
	c := chance(2)
	for high := 8; high < 13; high++ {
		for low := range 5 {
			for _, a := range shapesOf(&c, high, 2) {
				seeBoth(t, a, c.balanced(low))
				seeBoth(t, a, lean(low, high%leans))
			}
		}
	}
}

// TestSmall (P15.1, P15.2): all trees of up to 10 nodes that may be, each with each.
func TestSmall(t *testing.T) {
	l := smallTrees(10)
	if len(l) < 150 {
		t.Fatalf("there are %d trees alone", len(l))
	}
	for k, a := range l {
		for _, b := range l[:k+1] {
			x := rising(a, 1)
			y := rising(b, a.Size()+2)
			seeJoin(t, x, int64(a.Size())+1, 1, y)
			seeJoin(t, y, 0, -1, x)
		}
	}
}

// TestAnyShape (P15.1, P15.2): trees of any shape and height that may be.
func TestAnyShape(t *testing.T) {
	c := chance(3)
	for range 1500 {
		seeBoth(t, c.balanced(c.below(9)), c.balanced(c.below(9)))
	}
}

// TestManyPlaces (R1, P15.1, P15.2): trees whose nodes stand in more places than could be gone over, as high as an int can tell their nodes.
func TestManyPlaces(t *testing.T) {
	for side := range leans {
		for other := range leans {
			for _, high := range []int{0, 1, 2, 3, 9, 40, 70, 79} {
				for _, low := range []int{0, 1, 2, 3, 8, 39, 41, 60, 78} {
					l, r := leanTwins(high, side), leanTwins(low, other)
					seeRank(t, l, r, avljoin.Join(l, 1, 2, r))
				}
			}
		}
	}
	for high := range 61 {
		pair := twins(high)
		for _, x := range []*node.Node{leanTwins(high, leftHigh), leanTwins(high, rightHigh), full(high % 7), nil, pair, pair.Left().Right()} {
			seeRank(t, pair, x, avljoin.Join(pair, 1, 2, x))
			seeRank(t, x, pair, avljoin.Join(x, 1, 2, pair))
		}
	}
}

// TestKeys (P15.1): keys are not asked for: such as fall, equal ones, the least and the greatest; so are values, whose sum goes round.
func TestKeys(t *testing.T) {
	c := chance(4)
	pick := []func(place int) api.Pair{
		func(int) api.Pair { return api.Pair{Key: 4, Val: 4} },
		func(int) api.Pair { return api.Pair{Key: math.MinInt64, Val: math.MinInt64} },
		func(int) api.Pair { return api.Pair{Key: math.MaxInt64, Val: math.MaxInt64} },
		func(place int) api.Pair { return api.Pair{Key: int64(-place), Val: int64(place) << 58} },
		func(place int) api.Pair { return api.Pair{Key: math.MinInt64 + int64(place%2), Val: -1} },
	}
	for high := range 8 {
		for low := range 8 {
			for k, pair := range pick {
				l, _ := withPairs(c.balanced(high), 0, pair)
				r, _ := withPairs(c.balanced(low), 0, pick[(k+low)%len(pick)])
				p := pair(7)
				x := seeJoin(t, l, p.Key, p.Val, r)
				if x.Sum() != l.Sum()+p.Val+r.Sum() {
					t.Errorf("the sum of a join is %d", x.Sum())
				}
			}
		}
	}
}

// TestShared (P15.1, P15.2): two trees that share nodes, and one that is handed in twice.
func TestShared(t *testing.T) {
	c := chance(5)
	for high := range 9 {
		for _, x := range shapesOf(&c, high, 5) {
			seeJoin(t, x, 1, 2, x)
			for _, part := range []*node.Node{x.Left(), x.Right(), x.Left().Right(), x.Right().Left(), x.Left().Left().Right()} {
				seeJoin(t, x, 1, 2, part)
				seeJoin(t, part, 1, 2, x)
				whole := seeJoin(t, part, 3, 4, part)
				seeJoin(t, x, 5, 6, whole)
				seeJoin(t, whole, 5, 6, x)
			}
			seeJoin(t, x.Left(), 1, 2, x.Right())
			seeJoin(t, x.Right(), 1, 2, x.Left())
		}
	}
}

// TestAgain (P15.1, P15.2): joins of joins, in any order, of trees that were made so and stand in many others.
func TestAgain(t *testing.T) {
	c := chance(6)
	l := []*node.Node{nil}
	for range 3000 {
		a, b := l[c.below(len(l))], l[c.below(len(l))]
		if a.Size()+b.Size() < 300 {
			l = append(l, seeJoin(t, a, numberAt(c.below(50)), numberAt(c.below(50)), b))
		}
	}
	if len(l) < 500 {
		t.Errorf("the test joined %d times alone", len(l)-1)
	}
}

// TestSameAnswer (R6): a join hangs on what is given alone: asked again, behind others, it looks the same, and is another one.
func TestSameAnswer(t *testing.T) {
	c := chance(7)
	for range 300 {
		a, b := c.balanced(c.below(8)), c.balanced(c.below(8))
		x := avljoin.Join(a, 1, 2, b)
		avljoin.Join(b, 3, 4, a)
		y := avljoin.Join(a, 1, 2, b)
		if x == y {
			t.Fatal("one node was made twice")
		}
		if !slices.Equal(linesOf(x), linesOf(y)) {
			t.Errorf("two joins of trees of the ranks %d and %d look otherwise", avl.Rank(a), avl.Rank(b))
		}
	}
}

// linesOf is what a tree's nodes tell, but which they are.
func linesOf(x *node.Node) []bead {
	l := beadsOf(x)
	for k := range l {
		l[k].at, l[k].left, l[k].right = nil, nil, nil
	}
	return l
}

// TestMost (P15.2): the ranks' difference, and 1: of empty trees, of two of one rank, of the higher one on either side, whatever lies below the roots.
func TestMost(t *testing.T) {
	c := chance(8)
	seeMost(t, nil, nil, 1)
	for high := range 10 {
		for low := range high + 1 {
			for _, a := range shapesOf(&c, high, 2) {
				seeMost(t, a, c.balanced(low), high-low+1)
				seeMost(t, a, lean(low, turnsHigh), high-low+1)
			}
		}
		seeMost(t, full(high), nil, high+1)
		seeMost(t, full(high), full(high), 1)
	}
	for _, w := range []struct {
		a, b uint64
		want int
	}{
		{0, 0, 1}, {0, 1, 2}, {1, 1, 1}, {3, 9, 7}, {99, 5, 95}, {0, 1 << 32, 1<<32 + 1}, {1, 1<<63 - 1, math.MaxInt64},
		{top, top, 1}, {top, 0, 2}, {top, 5, 7}, {top, top - 2, 3}, {1 << 63, 1 << 63, 1}, {1 << 63, 1<<63 + 5, 6},
	} {
		seeMost(t, tagged(w.a), tagged(w.b), w.want)
		seeMost(t, over(full(3), w.a, nil), over(tagged(w.a), w.b, full(2)), w.want)
		if w.a == 0 {
			seeMost(t, nil, tagged(w.b), w.want)
		}
	}
}
