package wbjoin_test

import (
	"slices"
	"strings"
	"testing"

	"joinery/node"
)

// What a node on the way may be asked for: no turn, a single one, a double one.
const (
	noTurn = "-"
	single = "1"
	double = "2"
)

// asked is what a join asks for, if the pair is put in where what lies inside is alike with the lighter tree: a turn, or none, for each node above that, from the root on.
type asked struct {
	lightOnLeft bool
	turns       string
}

// join is the join of two trees, the heavier one on the left, by which is told what it asks for. Where single turns do, no double one is made.
func (a *asked) join(heavy, light *node.Node) *node.Node {
	if areAlike(weightOf(heavy), weightOf(light)) {
		return made(heavy, light)
	}
	t := a.join(heavy.Right(), light)
	outer, mid, inner := heavy.Left(), t.Left(), t.Right()
	switch {
	case areAlike(weightOf(outer), weightOf(t)):
		a.turns = noTurn + a.turns
		return made(outer, t)
	case areAlike(weightOf(outer), weightOf(mid)) && areAlike(weightOf(outer)+weightOf(mid), weightOf(inner)):
		a.turns = single + a.turns
		return made(made(outer, mid), inner)
	}
	a.turns = double + a.turns
	return made(made(outer, mid.Left()), made(mid.Right(), inner))
}

// asksFor tells what the join of two that may be asks for.
func asksFor(l, r *node.Node) asked {
	if l.Size() < r.Size() {
		a := asked{lightOnLeft: true}
		a.join(mirrored(r), mirrored(l))
		return a
	}
	var a asked
	a.join(l, r)
	return a
}

// spine is a tree whose left side has the first weight, whose right side's left side has the next one, and so on, and whose last right side has the last one. Each may weigh so many times as much.
func spine(outer []int, last, times int) *node.Node {
	x := lean(last*times, noneHeavy, 0)
	for _, weight := range slices.Backward(outer) {
		x = made(lean(weight*times, noneHeavy, 0), x)
	}
	return x
}

// seeTurn fails the test, unless a join asks for that, on either side, and is what it has to be.
func seeTurn(t *testing.T, heavy, light *node.Node, want string) {
	t.Helper()
	for _, c := range []struct {
		l, r        *node.Node
		lightOnLeft bool
	}{
		{heavy, light, false},
		// Of two of one weight none is the lighter one.
		{mirrored(light), mirrored(heavy), heavy.Size() > light.Size()},
	} {
		if got := asksFor(c.l, c.r); got != (asked{c.lightOnLeft, want}) {
			t.Errorf("the join of trees of the weights %d and %d asks for %+v, not %q", weightOf(c.l), weightOf(c.r), got, want)
		}
		seeJoin(t, rising(c.l, 1), int64(c.l.Size())+1, -1, rising(c.r, c.l.Size()+2))
		seeJoin(t, shuffled(c.l), 3, 4, shuffled(c.r))
	}
}

// TestTurns (P19.1, P19.2): joins that are written out, with no turn, with single and double ones, at the root, deep down and on many levels, on either side.
func TestTurns(t *testing.T) {
	for _, c := range []struct {
		outer       []int
		last, light int
		want        string
	}{
		{nil, 1, 1, ""}, {nil, 2, 1, ""}, {nil, 7, 3, ""}, {nil, 71, 29, ""},
		{[]int{2}, 1, 1, "-"}, {[]int{1}, 2, 1, "2"},
		{[]int{2, 2}, 1, 1, "--"}, {[]int{2, 1}, 2, 1, "-2"}, {[]int{2, 2}, 2, 1, "1-"}, {[]int{6, 9}, 4, 2, "2-"}, {[]int{3, 2}, 4, 2, "12"},
		{[]int{3, 2, 2}, 1, 1, "---"}, {[]int{3, 2, 1}, 2, 1, "--2"}, {[]int{3, 2, 2}, 2, 1, "-1-"}, {[]int{9, 6, 9}, 4, 2, "-2-"}, {[]int{3, 4, 2}, 1, 1, "1--"}, {[]int{4, 6, 2}, 1, 1, "2--"},
		{[]int{5, 3, 2}, 4, 2, "-12"}, {[]int{4, 3, 3}, 3, 2, "11-"}, {[]int{4, 3, 4}, 2, 2, "21-"}, {[]int{8, 6, 9}, 4, 2, "12-"}, {[]int{3, 4, 1}, 2, 1, "1-2"}, {[]int{4, 6, 1}, 2, 1, "2-2"},
		{[]int{5, 4, 3}, 5, 3, "112"}, {[]int{4, 3, 2}, 4, 2, "212"},
		{[]int{4, 3, 2, 2}, 2, 1, "1-1-"}, {[]int{7, 11, 2, 2}, 2, 1, "2-1-"}, {[]int{6, 4, 3, 2}, 4, 2, "1212"}, {[]int{7, 5, 4, 3}, 5, 3, "2112"}, {[]int{6, 4, 3, 3}, 3, 2, "211-"}, {[]int{4, 3, 2, 1}, 2, 1, "---2"},
		{[]int{9, 6, 4, 3, 4}, 2, 2, "-121-"}, {[]int{8, 6, 4, 3, 2}, 4, 2, "21212"}, {[]int{13, 9, 7, 5, 4}, 6, 4, "11212"}, {[]int{14, 21, 4, 6, 1}, 2, 1, "2-2-2"}, {[]int{6, 4, 3, 2, 2}, 1, 1, "-----"}, {[]int{6, 4, 3, 2, 1}, 2, 1, "----2"},
	} {
		seeTurn(t, spine(c.outer, c.last, 1), lean(c.light, noneHeavy, 0), c.want)
		for _, times := range []int{2, 3, 10} {
			for how := range leans {
				seeBoth(t, spine(c.outer, c.last, times), lean(c.light*times, how, 0))
				seeBoth(t, mirrored(spine(c.outer, c.last, times)), lean(c.light*times+1, how, 0))
			}
		}
	}
}

// kinds tell which turns a join asks for.
func kinds(a asked) []string {
	var l []string
	for _, turn := range []string{single, double} {
		if strings.HasPrefix(a.turns, turn) {
			l = append(l, turn+" at the root")
		}
		if strings.LastIndex(a.turns, turn) > 3 {
			l = append(l, turn+" deep down")
		}
		if strings.Count(a.turns, turn) > 2 {
			l = append(l, turn+" on many levels")
		}
	}
	if len(a.turns) > 3 && !strings.ContainsAny(a.turns, single+double) {
		l = append(l, "none")
	}
	if strings.Contains(a.turns, single) && strings.Contains(a.turns, double) {
		l = append(l, "both")
	}
	return l
}

// meeting counts what joins ask for, with the lighter tree on the left, and on the right.
type meeting [2]map[string]int

// note takes what the join of two asks for.
func (m *meeting) note(l, r *node.Node) {
	a := asksFor(l, r)
	side := 0
	if a.lightOnLeft {
		side = 1
	}
	if m[side] == nil {
		m[side] = map[string]int{}
	}
	for _, kind := range kinds(a) {
		m[side][kind]++
	}
}

// seeAll fails the test, unless each kind was met some times, on either side.
func (m *meeting) seeAll(t *testing.T, least int) {
	t.Helper()
	for side := range m {
		for _, kind := range []string{
			single + " at the root", double + " at the root", single + " deep down", double + " deep down", single + " on many levels", double + " on many levels", "none", "both",
		} {
			if m[side][kind] < least {
				t.Errorf("of the test's own joins %d, on the side %d, ask for %s", m[side][kind], side, kind)
			}
		}
	}
}

// TestLeaningTurns (P19.1, P19.2): trees that lean as much as may be, to the left everywhere, to the right everywhere, one way and the other by turns ask for turns of each kind, on either side.
func TestLeaningTurns(t *testing.T) {
	var met meeting
	for weight := 1; weight < 1500; weight += 1 + weight/8 {
		for how := range leans {
			heavy := lean(weight, how, 0)
			for light := 1; light <= weight; light += 1 + light*light/3 {
				x := lean(light, (how+light)%leans, 0)
				seeBoth(t, heavy, x)
				met.note(heavy, x)
				met.note(x, heavy)
			}
		}
	}
	met.seeAll(t, 5)
}

// TestInnerShares (P19.1, P19.2): heavier trees whose inner side, or its inner side, and so on, is as heavy as may be, as light as may be, or half as heavy as the whole, what a double turn would part as well; with all lighter ones that are not alike, and the first ones that are.
func TestInnerShares(t *testing.T) {
	for _, weight := range []int{5, 8, 11, 17, 24, 41, 58, 71, 142} {
		for shares := range allShares * allShares * allShares {
			parted := (shares + weight) % allShares
			heavy := inward(weight, parted, shares%allShares, shares/allShares%allShares, shares/allShares/allShares)
			first := 1
			for !areAlike(weight, first) {
				first++
			}
			for light := 1; light < first+2; light += 1 + light/9 {
				seeOneSide(t, heavy, light)
			}
			for light := max(1, first-3); light < first+2; light++ {
				seeOneSide(t, heavy, light)
			}
		}
	}
}

// seeOneSide fails the test, unless a tree is joined well with one of that weight on its right, and, turned about, with that on its left.
func seeOneSide(t *testing.T, heavy *node.Node, light int) {
	t.Helper()
	x := lean(light, light%leans, 0)
	seeHeavy(t, heavy, 1, 2, x)
	seeHeavy(t, mirrored(x), 3, 4, mirrored(heavy))
}

// TestEachKind (P19.1, P19.2): trees of any shape ask for no turn, for single and double ones, at the root, deep down and on many levels, on either side.
func TestEachKind(t *testing.T) {
	c := chance(11)
	var met meeting
	for range 3000 {
		l, r := c.anyTree(800), c.anyTree(30)
		if c.below(2) == 0 {
			l, r = r, l
		}
		seeJoin(t, shuffled(l), 1, 2, shuffled(r))
		met.note(l, r)
	}
	met.seeAll(t, 5)
}
