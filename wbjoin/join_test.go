package wbjoin_test

import (
	"math"
	"slices"
	"testing"

	"joinery/api"
	"joinery/node"
	"joinery/wb"
	"joinery/wbjoin"
)

// TestExample (P19.1): the chapter's own.
func TestExample(t *testing.T) {
	one := seeJoin(t, nil, 1, 10, nil)
	if one.Size() != 1 || one.Key() != 1 || one.Val() != 10 || one.Tag() != 0 {
		t.Errorf("of two empty trees: %v", beadsOf(one))
	}
	two := seeJoin(t, one, 2, 20, nil)
	if two.Size() != 2 {
		t.Errorf("of one: %v", beadsOf(two))
	}
	three := seeJoin(t, two, 3, 30, nil)
	want := []api.Pair{{Key: 1, Val: 10}, {Key: 2, Val: 20}, {Key: 3, Val: 30}}
	if three.Key() != 2 || !slices.Equal(pairsOf(three), want) {
		t.Errorf("of two: %v", beadsOf(three))
	}
}

// TestEmpty (P19.1, P19.2): of two empty trees, with keys and values of all sizes.
func TestEmpty(t *testing.T) {
	for _, key := range numbers() {
		for _, val := range numbers() {
			x := seeJoin(t, nil, key, val, nil)
			if x.Tag() != 0 || x.Left() != nil || x.Right() != nil {
				t.Errorf("of two empty trees: %v", beadsOf(x))
			}
		}
	}
}

// TestEmptyAndOther (P19.1, P19.2): of an empty tree and another one, on either side.
func TestEmptyAndOther(t *testing.T) {
	c := chance(1)
	for weight := 1; weight < 400; weight += 1 + weight/20 {
		for how := range leans {
			seeBoth(t, lean(weight, how, 0), nil)
		}
		seeBoth(t, c.balanced(weight, 4), nil)
	}
}

// TestOneWeight (P19.1, P19.2): of two trees of one weight, of any shapes.
func TestOneWeight(t *testing.T) {
	c := chance(2)
	for weight := 1; weight < 200; weight += 1 + weight/20 {
		for how := range leans {
			seeBoth(t, lean(weight, how, 0), c.balanced(weight, 3))
			seeMost(t, lean(weight, how, 0), c.balanced(weight, 3), 1)
		}
	}
}

// TestJustAlike (P19.1, P19.2): of two trees whose weights are just alike, or just not, or next to that, the heavier one on either side.
func TestJustAlike(t *testing.T) {
	c := chance(3)
	for _, at := range []struct{ light, heavy int }{
		{1, 2}, {2, 4}, {3, 7}, {4, 9}, {5, 12}, {7, 17}, {12, 29}, {28, 68}, {29, 71}, {30, 73}, {58, 142}, {87, 213}, {290, 710},
	} {
		if !areAlike(at.light, at.heavy) || areAlike(at.light, at.heavy+1) {
			t.Fatalf("the test's own weights %d and %d are not just alike", at.light, at.heavy)
		}
		for by := range 4 {
			for how := range leans {
				seeBoth(t, lean(at.heavy+by, how, 0), lean(at.light, (how+by)%leans, 0))
				seeBoth(t, c.balanced(at.heavy+by, 2), c.balanced(at.light, 2))
				if at.heavy > at.light+by {
					seeBoth(t, lean(at.heavy-by, how, 0), lean(at.light, how, 0))
				}
			}
		}
	}
}

// TestFarHeavier (P19.1, P19.2): of two trees whose weights are far apart, by a little, and by very much, the heavier one on either side.
func TestFarHeavier(t *testing.T) {
	c := chance(4)
	for _, heavy := range []int{10, 33, 100, 517, 1500} {
		for _, light := range []int{heavy / 3, heavy / 4, heavy / 5, heavy / 9, heavy / 20, 1 + heavy/100, 1, 2, 3} {
			for how := range leans {
				seeBoth(t, lean(heavy, how, 0), lean(max(light, 1), (how+light)%leans, 0))
			}
			seeBoth(t, c.balanced(heavy, 2), c.balanced(max(light, 1), 2))
		}
	}
	for how := range leans {
		seeBoth(t, lean(6000, how, 0), leaf())
		seeBoth(t, lean(6000, how, 0), nil)
	}
}

// TestSmall (P19.1, P19.2): all trees of up to 10 nodes that may be, each with each.
func TestSmall(t *testing.T) {
	l := slices.Concat(allOf(11)...)
	if len(l) != 168 {
		t.Fatalf("there are %d trees", len(l))
	}
	for _, a := range l {
		x := rising(a, 1)
		for _, b := range l {
			seeJoin(t, x, int64(a.Size())+1, 1, rising(b, a.Size()+2))
		}
	}
}

// TestSmallLighter (P19.1, P19.2): all trees of up to 15 nodes that may be, with all of up to 4, on either side.
func TestSmallLighter(t *testing.T) {
	l := allOf(15)
	light := slices.Concat(l[:6]...)
	for _, a := range slices.Concat(l[12:]...) {
		for _, b := range light {
			seeHeavy(t, a, 1, 2, b)
			seeHeavy(t, b, 1, 2, a)
		}
	}
}

// TestAnyShape (P19.1, P19.2): trees of any shape and weight that may be.
func TestAnyShape(t *testing.T) {
	c := chance(5)
	for range 400 {
		seeBoth(t, c.anyTree(300), c.anyTree(300))
		seeBoth(t, c.anyTree(600), c.anyTree(20))
	}
}

// TestKeys (P19.1): keys are not asked for: such as fall, equal ones, the least and the greatest; so are values, whose sum goes round.
func TestKeys(t *testing.T) {
	c := chance(6)
	pick := []func(place int) api.Pair{
		func(int) api.Pair { return api.Pair{Key: 4, Val: 4} },
		func(int) api.Pair { return api.Pair{Key: math.MinInt64, Val: math.MinInt64} },
		func(int) api.Pair { return api.Pair{Key: math.MaxInt64, Val: math.MaxInt64} },
		func(place int) api.Pair { return api.Pair{Key: int64(-place), Val: int64(place) << 58} },
		func(place int) api.Pair { return api.Pair{Key: math.MinInt64 + int64(place%2), Val: -1} },
	}
	for range 60 {
		for k, pair := range pick {
			l, _ := withPairs(c.anyTree(120), 0, pair)
			r, _ := withPairs(c.anyTree(40), 0, pick[(k+c.below(5))%len(pick)])
			p := pair(7)
			seeJoin(t, l, p.Key, p.Val, r)
			seeJoin(t, r, p.Key, p.Val, l)
		}
	}
}

// TestShared (P19.1, P19.2): two trees that share nodes, and one that is handed in twice.
func TestShared(t *testing.T) {
	c := chance(7)
	for weight := 1; weight < 300; weight += 1 + weight/6 {
		for how := range leans {
			for _, x := range []*node.Node{lean(weight, how, 0), c.balanced(weight, 3)} {
				seeJoin(t, x, 1, 2, x)
				for _, part := range []*node.Node{x.Left(), x.Right(), x.Left().Right(), x.Right().Left(), x.Left().Left().Right(), x.Right().Right().Right()} {
					seeJoin(t, x, 1, 2, part)
					seeJoin(t, part, 1, 2, x)
					whole := seeJoin(t, part, 3, 4, part)
					seeJoin(t, x, 5, 6, whole)
					seeJoin(t, whole, 5, 6, x)
				}
				seeJoin(t, x.Left(), 1, 2, x.Right())
				seeJoin(t, x.Right(), 1, 2, x.Left())
			}
		}
	}
}

// TestAgain (P19.1, P19.2): joins of joins, and of what is left and right in them, in any order, of trees that were made so and stand in many others.
func TestAgain(t *testing.T) {
	c := chance(8)
	l := make([]*node.Node, 30)
	great := 0
	for range 3000 {
		x := seeJoin(t, l[c.below(len(l))], numberAt(c.below(50)), numberAt(c.below(50)), l[c.below(len(l))])
		if x.Size() > 300 {
			great++
			l[c.below(len(l))] = x.Left().Right()
			x = x.Right().Left().Left()
		}
		l[c.below(len(l))] = x
	}
	if great < 100 {
		t.Errorf("of the test's own joins %d are great", great)
	}
}

// TestManyNodes (R1, P19.1, P19.2): trees of very many nodes, which share most of them, together of just as many as they may have, and of a few less, the heavier one on either side.
func TestManyNodes(t *testing.T) {
	for how := range leans {
		for _, less := range []int{0, 1, 2, 71} {
			// So many nodes weigh 2 more, on both sides together.
			all := most - less + 2
			for _, light := range []int{
				1, 2, 3, 1000, 1<<20 + 1, all / 100, all / 10, all * 29 / 171, all * 29 / 142, leastSide(all) - 2, leastSide(all) - 1, leastSide(all), leastSide(all) + 1, all / 3, all/2 - 1, all / 2,
			} {
				h := heavies{}
				a, b := h.of(spot{all - light, how, 0}), h.of(spot{light, how, 0})
				if a.Size()+b.Size() != most-less {
					t.Fatalf("the test's own trees have %d nodes", a.Size()+b.Size())
				}
				seeHeavy(t, a, 7, 8, b)
				seeHeavy(t, b, 7, 8, a)
			}
		}
	}
}

// TestPowers (P19.1, P19.2): trees of weights next to powers of 2, by which the ranks change, the heavier one on either side.
func TestPowers(t *testing.T) {
	h := heavies{}
	for high := range 40 {
		for low := 0; low <= high; low += 1 + low/3 {
			for by := range 3 {
				a, b := h.of(spot{max(1<<high+by-1, 1), (high + by) % leans, 0}), h.of(spot{max(1<<low+(by+high)%3-1, 1), low % leans, 1})
				seeHeavy(t, a, 7, 8, b)
				seeHeavy(t, b, 7, 8, a)
			}
		}
	}
}

// TestSameAnswer (R6): a join hangs on what is given alone: asked again, behind others, it looks the same, and is another one.
func TestSameAnswer(t *testing.T) {
	c := chance(9)
	for range 300 {
		a, b := c.anyTree(200), c.anyTree(200)
		x := wbjoin.Join(a, 1, 2, b)
		wbjoin.Join(b, 3, 4, a)
		y := wbjoin.Join(a, 1, 2, b)
		if x == y {
			t.Fatal("one node was made twice")
		}
		if !slices.Equal(linesOf(x), linesOf(y)) {
			t.Errorf("two joins of trees of the weights %d and %d look otherwise", weightOf(a), weightOf(b))
		}
	}
}

// linesOf is what a tree's nodes tell, but which they are.
func linesOf(x *node.Node) []bead {
	l := beadsOf(x)
	for k := range l {
		l[k].at, l[k].left, l[k].right = nil, nil, nil
	}
	return l
}

// TestMost (P19.2): six times the ranks' difference, and 1: of empty trees, of two of one rank, of the higher one on either side, of ranks that are far apart, whatever lies below the roots.
func TestMost(t *testing.T) {
	for _, c := range []struct{ a, b, want int }{
		{1, 1, 1}, {2, 1, 7}, {3, 1, 7}, {4, 1, 13}, {2, 2, 1}, {2, 3, 1}, {3, 4, 7}, {2, 7, 7}, {2, 8, 13}, {7, 8, 7}, {8, 15, 1}, {15, 16, 7}, {16, 31, 1},
		{1, 1 << 20, 121}, {1<<20 - 1, 1, 115}, {1 << 40, 1, 241}, {1 << 40, 1<<40 - 1, 7}, {1<<40 + 1, 1 << 40, 1}, {1<<40 + 1, 1, 241}, {1 << 62, 1, 373}, {math.MaxInt64, 2, 367},
	} {
		seeMost(t, heavy(c.a), heavy(c.b), c.want)
	}
	c := chance(10)
	for range 3000 {
		a, b := c.anyTree(400), c.anyTree(400)
		seeMost(t, a, b, 6*max(rankOf(a)-rankOf(b), rankOf(b)-rankOf(a))+1)
	}
	for high := range 62 {
		for low := range high + 1 {
			seeMost(t, twins(high), twins(low), 6*(high-low)+1)
		}
	}
}

// TestMostOfWrong (P19.2): trees that may not be have ranks as well: it hangs on their sizes alone.
func TestMostOfWrong(t *testing.T) {
	for _, tag := range tags() {
		seeMost(t, tagged(tag), nil, 7)
		seeMost(t, tagged(tag), over(nil, tag, heavy(30)), 19)
	}
	for way := range ways {
		seeMost(t, deepOver(nil, 1022, way), nil, 55)
		seeMost(t, deepOver(nil, 1023, way), nil, 61)
		seeMost(t, deepOver(nil, 1023, way), heavy(1024), 1)
	}
	c := chance(12)
	l := c.grove(60)
	for _, a := range l {
		for _, b := range l {
			seeMost(t, a, b, 6*max(wb.Rank(a)-wb.Rank(b), wb.Rank(b)-wb.Rank(a))+1)
		}
	}
}
