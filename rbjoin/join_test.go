package rbjoin_test

import (
	"math"
	"slices"
	"testing"

	"joinery/api"
	"joinery/node"
	"joinery/rb"
	"joinery/rbjoin"
)

// TestExample (P17.1): the chapter's own.
func TestExample(t *testing.T) {
	one := seeJoin(t, nil, 1, 10, nil)
	if one.Tag() != 2 || one.Size() != 1 || one.Key() != 1 || one.Val() != 10 {
		t.Errorf("of two empty trees: %v", beadsOf(one))
	}
	two := seeJoin(t, one, 2, 20, nil)
	isOnRight := two.Key() == 1 && two.Right().Key() == 2 && rb.Red(two.Right())
	isOnLeft := two.Key() == 2 && two.Left().Key() == 1 && rb.Red(two.Left())
	if two.Size() != 2 || two.Tag() != 2 || !isOnRight && !isOnLeft {
		t.Errorf("of one: %v", beadsOf(two))
	}
}

// TestEmpty (P17.1, P17.2): of two empty trees, with keys and values of all sizes.
func TestEmpty(t *testing.T) {
	for _, key := range numbers() {
		for _, val := range numbers() {
			x := seeJoin(t, nil, key, val, nil)
			if x.Tag() != 2 || x.Left() != nil || x.Right() != nil {
				t.Errorf("of two empty trees: %v", beadsOf(x))
			}
		}
	}
}

// TestEmptyAndOther (P17.1, P17.2): of an empty tree and another one, black or red, on either side.
func TestEmptyAndOther(t *testing.T) {
	c := chance(1)
	for half := range 8 {
		for _, x := range partsOf(&c, half, 4) {
			seeBoth(t, x, nil)
		}
	}
}

// TestRanks (P17.1, P17.2): trees of two ranks, equal ones, such as differ by 2, by 4, by 6, by more, black ones and red ones, of as few nodes as may be, of as many as may be, and others, the higher one on either side.
func TestRanks(t *testing.T) {
	c := chance(2)
	for half := range 5 {
		for low := range half + 1 {
			for _, a := range partsOf(&c, half, 2) {
				for _, b := range partsOf(&c, low, 2) {
					seeBoth(t, a, b)
				}
			}
		}
	}
}

// TestFarHigher (P17.1, P17.2): trees whose ranks differ by very much, on either side.
func TestFarHigher(t *testing.T) {
	c := chance(3)
	for half := 5; half < 7; half++ {
		for low := range half - 2 {
			for _, b := range partsOf(&c, low, 0) {
				a := partsOf(&c, half, 1)
				seeBoth(t, a[c.below(len(a))], b)
			}
		}
	}
	seeBoth(t, full(11), nil)
	seeBoth(t, full(11), red(nil, nil))
	seeBoth(t, red(full(10), full(10)), black(nil, nil))
}

// TestOneRank (P17.1, P17.2): of two trees of one rank, both black, both red, one of them red, on either side.
func TestOneRank(t *testing.T) {
	c := chance(4)
	met := map[[2]bool]int{}
	for half := range 6 {
		l := partsOf(&c, half, 1)
		for _, a := range l {
			for range 5 {
				b := l[c.below(len(l))]
				seeMost(t, a, b, 3)
				seeBoth(t, a, b)
				met[[2]bool{isOdd(a), isOdd(b)}]++
			}
		}
	}
	for _, colours := range [][2]bool{{false, false}, {false, true}, {true, false}, {true, true}} {
		if met[colours] < 20 {
			t.Errorf("of the test's own joins %d are of trees of which each is red: %v", met[colours], colours)
		}
	}
}

// TestSmall (P17.1, P17.2): all parts of up to 9 nodes, each with each.
func TestSmall(t *testing.T) {
	l := smallParts(9)
	if len(l) < 150 {
		t.Fatalf("there are %d parts alone", len(l))
	}
	for k, a := range l {
		for _, b := range l[:k+1] {
			x := rising(a, 1)
			y := rising(b, a.Size()+2)
			seeJoin(t, x, int64(a.Size())+1, 1, y)
			seeJoin(t, y, 0, -1, x)
		}
	}
}

// TestAnyShape (P17.1, P17.2): parts of any shape and rank.
func TestAnyShape(t *testing.T) {
	c := chance(5)
	for range 1000 {
		seeBoth(t, c.anyPart(6), c.anyPart(6))
	}
}

// seeRise fails the test, unless the join's rank is by so much greater than the greater one of theirs, on either side.
func seeRise(t *testing.T, a, b *node.Node, by int) {
	t.Helper()
	for range 2 {
		x := seeJoin(t, shuffled(a), 1, 2, shuffled(b))
		if high := max(rankOf(a), rankOf(b)); rb.Rank(x) != high+by {
			t.Errorf("the join of trees of the tags %d and %d has the rank %d", a.Tag(), b.Tag(), rb.Rank(x))
		}
		a, b = b, a
	}
}

// TestRise (P17.1): joins that can but have 2 more than the greater rank, as of that there may be no more nodes, and such as can but have that, as of 2 more there may be no fewer.
func TestRise(t *testing.T) {
	for half := range 7 {
		for low := range half + 1 {
			seeRise(t, rubied(half, redBoth), full(low), 2)
			if half < 6 {
				seeRise(t, rubied(half, redBoth), rubied(low, redRight), 2)
			}
			if low > 0 {
				seeRise(t, rubied(half, redBoth), red(full(low-1), full(low-1)), 2)
			}
			if low < half {
				seeRise(t, full(half), full(low), 0)
			}
			if 0 < low && low < half {
				seeRise(t, red(full(half-1), full(half-1)), red(full(low-1), full(low-1)), 0)
			}
		}
	}
}

// TestManyPlaces (R1, P17.1, P17.2): trees whose nodes stand in more places than could be gone over, as high as an int can tell their nodes.
func TestManyPlaces(t *testing.T) {
	seeTwins := func(a, b *node.Node) {
		t.Helper()
		seeRank(t, a, b, rbjoin.Join(a, 1, 2, b))
		seeRank(t, b, a, rbjoin.Join(b, 1, 2, a))
	}
	for place := range places {
		for other := range places {
			for _, high := range []int{0, 1, 2, 3, 9, 20, 29} {
				for _, low := range []int{0, 1, 2, 3, 8, 19, 21, 28} {
					a, b := rubiedTwins(high, place), rubiedTwins(low, other)
					seeTwins(a, b)
					seeTwins(red(a, a), b)
					seeTwins(red(a, a), red(b, b))
				}
			}
		}
	}
	for high := range 61 {
		pair := twins(high)
		for _, x := range []*node.Node{rubiedTwins(high/2, redBoth), twins(high / 2), full(high % 7), nil, pair, pair.Left().Right()} {
			seeTwins(pair, x)
			seeTwins(red(pair, pair), x)
			seeTwins(pair, rb.Blacken(red(x, x)))
		}
	}
}

// TestKeys (P17.1): keys are not asked for: such as fall, equal ones, the least and the greatest; so are values, whose sum goes round.
func TestKeys(t *testing.T) {
	c := chance(6)
	pick := []func(place int) api.Pair{
		func(int) api.Pair { return api.Pair{Key: 4, Val: 4} },
		func(int) api.Pair { return api.Pair{Key: math.MinInt64, Val: math.MinInt64} },
		func(int) api.Pair { return api.Pair{Key: math.MaxInt64, Val: math.MaxInt64} },
		func(place int) api.Pair { return api.Pair{Key: int64(-place), Val: int64(place) << 58} },
		func(place int) api.Pair { return api.Pair{Key: math.MinInt64 + int64(place%2), Val: -1} },
	}
	for range 8 {
		for high := range 6 {
			for k, pair := range pick {
				l, _ := withPairs(c.part(high, 3), 0, pair)
				r, _ := withPairs(c.anyPart(6), 0, pick[(k+high)%len(pick)])
				p := pair(7)
				seeJoin(t, l, p.Key, p.Val, r)
				seeJoin(t, r, p.Key, p.Val, l)
			}
		}
	}
}

// TestShared (P17.1, P17.2): two trees that share nodes, and one that is handed in twice.
func TestShared(t *testing.T) {
	c := chance(7)
	for half := range 6 {
		for _, x := range partsOf(&c, half, 3) {
			seeJoin(t, x, 1, 2, x)
			for _, part := range []*node.Node{x.Left(), x.Right(), x.Left().Right(), x.Right().Left(), x.Left().Left().Right()} {
				seeJoin(t, x, 1, 2, part)
				seeJoin(t, part, 1, 2, x)
				whole := seeJoin(t, part, 3, 4, part)
				seeJoin(t, x, 5, 6, whole)
				seeJoin(t, whole, 5, 6, x)
			}
			seeJoin(t, x.Left(), 1, 2, x.Right())
			seeJoin(t, x.Right(), 1, 2, x.Left())
		}
	}
}

// TestAgain (P17.1, P17.2): joins of joins, and of what is left and right in them, in any order, of trees that were made so and stand in many others.
func TestAgain(t *testing.T) {
	c := chance(8)
	l := []*node.Node{nil}
	for range 3000 {
		a, b := l[c.below(len(l))], l[c.below(len(l))]
		if a.Size()+b.Size() < 300 {
			x := seeJoin(t, a, numberAt(c.below(50)), numberAt(c.below(50)), b)
			l = append(l, x, x.Left(), x.Right().Left())
		}
	}
	if len(l) < 1500 {
		t.Errorf("the test has %d trees alone", len(l))
	}
}

// TestSameAnswer (R6): a join hangs on what is given alone: asked again, behind others, it looks the same, and is another one.
func TestSameAnswer(t *testing.T) {
	c := chance(9)
	for range 300 {
		a, b := c.anyPart(6), c.anyPart(6)
		x := rbjoin.Join(a, 1, 2, b)
		rbjoin.Join(b, 3, 4, a)
		y := rbjoin.Join(a, 1, 2, b)
		if x == y {
			t.Fatal("one node was made twice")
		}
		if !slices.Equal(linesOf(x), linesOf(y)) {
			t.Errorf("two joins of trees of the tags %d and %d look otherwise", a.Tag(), b.Tag())
		}
	}
}

// linesOf is what a tree's nodes tell, but which they are.
func linesOf(x *node.Node) []bead {
	l := beadsOf(x)
	for k := range l {
		l[k].at, l[k].left, l[k].right = nil, nil, nil
	}
	return l
}

// TestMost (P17.2): the ranks' difference, and 3: of empty trees, of two of one rank, of red ones, of the higher one on either side, whatever lies below the roots.
func TestMost(t *testing.T) {
	c := chance(10)
	seeMost(t, nil, nil, 3)
	seeMost(t, red(nil, nil), nil, 5)
	seeMost(t, red(nil, nil), black(nil, nil), 3)
	seeMost(t, red(nil, nil), red(nil, nil), 3)
	for half := range 7 {
		for low := range half + 1 {
			for _, a := range partsOf(&c, half, 1) {
				for _, b := range partsOf(&c, low, 0) {
					seeMost(t, a, b, 2*(half-low)+3)
				}
			}
		}
	}
}

// TestMostByTags (P17.2): trees of any tags, an odd one among them being made even for its rank.
func TestMostByTags(t *testing.T) {
	for _, w := range []struct {
		a, b uint64
		want int
	}{
		{0, 0, 3}, {0, 1, 5}, {0, 2, 5}, {1, 1, 3}, {1, 2, 3}, {2, 3, 5}, {3, 9, 9}, {4, 9, 9}, {3, 8, 7}, {99, 5, 97},
		{0, 1 << 32, 1<<32 + 3}, {1, 1<<62 + 1, 1<<62 + 3}, {1<<63 - 2, 1<<63 - 2, 3}, {1<<63 - 2, 1<<63 - 4, 5}, {8, 1<<63 - 2, math.MaxInt64 - 6},
	} {
		seeMost(t, tagged(w.a), tagged(w.b), w.want)
		seeMost(t, over(full(3), w.a, nil), over(tagged(w.a), w.b, full(2)), w.want)
		if w.a == 0 {
			seeMost(t, nil, tagged(w.b), w.want)
		}
	}
	for _, a := range tags() {
		for _, b := range tags() {
			seeMost(t, tagged(a), tagged(b), max(rb.Rank(tagged(a)), rb.Rank(tagged(b)))-min(rb.Rank(tagged(a)), rb.Rank(tagged(b)))+3)
		}
	}
}
