package shape_test

import (
	"math"
	"runtime/debug"
	"slices"
	"strings"
	"testing"

	"joinery/api"
	"joinery/node"
	"joinery/shape"
)

// TestNoBeads (P11.1): the empty tree has no beads, and no beads, nil or not, are the empty tree's.
func TestNoBeads(t *testing.T) {
	if l := shape.List(nil); len(l) != 0 {
		t.Errorf("nothing has %v", l)
	}
	seeMade(t, nil)
	seeMade(t, nil, []api.Bead{}...)
	seeMade(t, nil, make([]api.Bead, 0, 9)...)
}

// TestListOfOne (P11.1): a node of two empty trees, of each key, value and tag.
func TestListOfOne(t *testing.T) {
	for _, key := range numbers() {
		for _, val := range numbers() {
			for _, tag := range tags() {
				want := api.Bead{Key: key, Val: val, Sum: val, Size: 1, Tag: tag}
				x := leaf(key, val, tag)
				if l := shape.List(x); len(l) != 1 || l[0] != want {
					t.Errorf("%v, not %v", l, want)
				}
				seeMade(t, x, want)
			}
		}
	}
}

// TestListOfSides (P11.1): a node's bead comes ahead of those of what is left, and these ahead of those of what is right; an empty side has none; a tree that stands on both sides is told twice.
func TestListOfSides(t *testing.T) {
	one, other := leaf(1, 10, 100), leaf(2, -20, 200)
	a, b := api.Bead{Key: 1, Val: 10, Sum: 10, Size: 1, Tag: 100}, api.Bead{Key: 2, Val: -20, Sum: -20, Size: 1, Tag: 200}
	for _, c := range []struct {
		left, right *node.Node
		want        []api.Bead
	}{
		{one, nil, []api.Bead{{Key: 5, Val: 3, Sum: 13, Size: 2, Left: true}, a}},
		{nil, one, []api.Bead{{Key: 5, Val: 3, Sum: 13, Size: 2, Right: true}, a}},
		{one, other, []api.Bead{{Key: 5, Val: 3, Sum: -7, Size: 3, Left: true, Right: true}, a, b}},
		{other, one, []api.Bead{{Key: 5, Val: 3, Sum: -7, Size: 3, Left: true, Right: true}, b, a}},
		{one, one, []api.Bead{{Key: 5, Val: 3, Sum: 23, Size: 3, Left: true, Right: true}, a, a}},
	} {
		x := node.New(c.left, 5, 3, 0, c.right)
		if l := shape.List(x); !slices.Equal(l, c.want) {
			t.Errorf("%v, not %v", l, c.want)
		}
		seeMade(t, x, c.want...)
	}
}

// TestListOfAny (P11.1): each tree's beads, by the chapter's words.
func TestListOfAny(t *testing.T) {
	for _, x := range trees() {
		want := beadsOf(x)
		if l := shape.List(x); !slices.Equal(l, want) {
			t.Errorf("%v, not %v", l, want)
		}
		seeMade(t, x, want...)
	}
}

// TestSumsGoRound (P11.1): a sum that passes the greatest number is told as it goes round.
func TestSumsGoRound(t *testing.T) {
	x := node.New(leaf(1, math.MaxInt64, 0), 2, 1, 0, leaf(3, math.MaxInt64, 0))
	if l := shape.List(x); len(l) != 3 || l[0].Sum != -1 || l[0].Size != 3 {
		t.Errorf("%v", l)
	}
	seeMade(t, x, api.Bead{Key: 2, Val: 1, Left: true, Right: true}, api.Bead{Key: 1, Val: math.MaxInt64}, api.Bead{Key: 3, Val: math.MaxInt64})
}

// TestSizeAndSumSayNothing (P11.1): beads may say anything of these, none of them or all: what is made tells its own.
func TestSizeAndSumSayNothing(t *testing.T) {
	for _, x := range trees() {
		for _, said := range []api.Bead{{}, {Size: -1, Sum: -1}, {Size: math.MaxInt, Sum: math.MaxInt64}, {Size: math.MinInt, Sum: math.MinInt64}, {Size: 7, Sum: 9}} {
			for step := range 3 {
				l := beadsOf(x)
				for k := 0; k < len(l); k += step + 1 {
					l[k].Size, l[k].Sum = said.Size, said.Sum
				}
				seeMade(t, x, l...)
			}
		}
	}
}

// TestTooFewBeads (P11.1): a tree's beads, of which the last ones, or the first ones, are missing.
func TestTooFewBeads(t *testing.T) {
	for _, x := range trees() {
		l := beadsOf(x)
		for count := 1; count < len(l); count++ {
			seeUnmade(t, api.ErrForm, l[:count]...)
		}
		for k, b := range l {
			if b.Left != b.Right {
				continue
			}
			// Without a bead that is over two trees there is one tree too many, and without a leaf there is one too few.
			seeEmptyOrUnmade(t, slices.Delete(slices.Clone(l), k, k+1))
		}
	}
}

// seeEmptyOrUnmade fails the test, unless beads that are no tree's make none: of no beads there is the empty tree.
func seeEmptyOrUnmade(t *testing.T, l []api.Bead) {
	t.Helper()
	if len(l) == 0 {
		seeMade(t, nil, l...)
		return
	}
	seeUnmade(t, api.ErrForm, l...)
}

// TestTooManyBeads (P11.1): beads that no Left and no Right tells of, behind a tree's, or ahead of them.
func TestTooManyBeads(t *testing.T) {
	for _, x := range trees()[1:] {
		l := beadsOf(x)
		for _, more := range []api.Bead{{}, {Key: 5, Val: 6, Tag: 7}, {Left: true}, {Left: true, Right: true}, l[0]} {
			seeUnmade(t, api.ErrForm, append(slices.Clone(l), more)...)
		}
		seeUnmade(t, api.ErrForm, append([]api.Bead{{}}, l...)...)
		seeUnmade(t, api.ErrForm, slices.Concat(l, l)...)
		// A bead ahead that has a side is over them.
		seeMade(t, node.New(x, 0, 0, 0, nil), append([]api.Bead{{Left: true}}, l...)...)
		seeMade(t, node.New(nil, 0, 0, 0, x), append([]api.Bead{{Right: true}}, l...)...)
		seeMade(t, node.New(x, 0, 0, 0, x), slices.Concat([]api.Bead{{Left: true, Right: true}}, l, l)...)
	}
}

// mayBe tells whether beads may be a tree's, by how many are still missing: one at first, and each that comes is one less, and has its sides.
func mayBe(l []api.Bead) bool {
	missing := 1
	for _, b := range l {
		if missing == 0 {
			return false
		}
		missing--
		if b.Left {
			missing++
		}
		if b.Right {
			missing++
		}
	}
	return missing == 0 || len(l) == 0
}

// TestAllLeftsAndRights (P11.1): all Lefts and Rights that there are of up to seven beads: just as many make a tree as there are trees.
func TestAllLeftsAndRights(t *testing.T) {
	for count, want := range []int{1, 1, 2, 5, 14, 42, 132, 429} {
		made := 0
		for sides := range 1 << (2 * count) {
			l := make([]api.Bead, count)
			for k := range l {
				l[k] = api.Bead{Key: int64(k), Left: sides>>(2*k)&1 == 1, Right: sides>>(2*k)&2 == 2}
			}
			x, e := shape.Make(l...)
			if !mayBe(l) {
				seeUnmade(t, api.ErrForm, l...)
				continue
			}
			made++
			if e != api.OK || x.Size() != count {
				t.Fatalf("%v: %v, a tree of %d", l, e, x.Size())
			}
			for k, b := range beadsOf(x) {
				if b.Key != int64(k) || b.Left != l[k].Left || b.Right != l[k].Right {
					t.Errorf("%v became %v", l[k], b)
				}
			}
		}
		if made != want {
			t.Errorf("%d trees of %d beads, not %d", made, count, want)
		}
	}
}

// TestMaxBeads (P11.1): as many as may be, and one more.
func TestMaxBeads(t *testing.T) {
	most := even(api.MaxBeads, 1, above)
	seeMade(t, most, beadsOf(most)...)
	more := even(api.MaxBeads+1, 1, above)
	seeUnmade(t, api.ErrLong, beadsOf(more)...)
	seeUnmade(t, api.ErrLong, shape.List(even(3*api.MaxBeads, 1, above))...)
	if l := shape.List(more); !slices.Equal(l, beadsOf(more)) {
		t.Error("the beads of a tree that has more than Make makes are not told as they are")
	}
}

// TestLongAheadOfForm (P11.1): beads that are too many are ErrLong, also if they are no tree's; those that are not, are ErrForm.
func TestLongAheadOfForm(t *testing.T) {
	most := beadsOf(even(api.MaxBeads, 1, above))
	for _, more := range []api.Bead{{}, {Left: true}, {Left: true, Right: true}} {
		seeUnmade(t, api.ErrLong, append(slices.Clone(most), more)...)
	}
	seeUnmade(t, api.ErrLong, make([]api.Bead, api.MaxBeads+1)...)
	seeUnmade(t, api.ErrForm, make([]api.Bead, api.MaxBeads)...)
	seeUnmade(t, api.ErrForm, most[:api.MaxBeads-1]...)
	seeUnmade(t, api.ErrForm, append([]api.Bead{{}}, most[1:]...)...)
	seeUnmade(t, api.ErrLong, shape.List(deepTree(api.MaxBeads+1, leftward, nil))...)
	seeUnmade(t, api.ErrForm, shape.List(deepTree(api.MaxBeads, leftward, nil))...)
}

// TestMaxDeep (P11.1): one bead lies just as deep as it may, the root 1 deep; and one deeper. The way there may be any, with something on its other side, and below any other tree.
func TestMaxDeep(t *testing.T) {
	for way := range ways {
		for _, other := range []*node.Node{nil, leaf(8, 9, 10), full(3, 1)} {
			// What is on the other side of the last one lies deeper than that.
			most := api.MaxDeep
			for other != nil && most+heightOf(other) > api.MaxDeep {
				most--
			}
			x := deepTree(most, way, other)
			seeMade(t, x, beadsOf(x)...)
			seeUnmade(t, api.ErrForm, beadsOf(deepTree(most+1, way, other))...)
			for _, over := range []*node.Node{node.New(x, 1, 1, 0, nil), node.New(nil, 1, 1, 0, x), node.New(full(9, 1), 1, 1, 0, x), node.New(x, 1, 1, 0, full(9, 1))} {
				seeUnmade(t, api.ErrForm, beadsOf(over)...)
			}
		}
		below := deepTree(api.MaxDeep-5, way, nil)
		for place := range 32 {
			seeMade(t, hung(below, 5, place), beadsOf(hung(below, 5, place))...)
			seeUnmade(t, api.ErrForm, beadsOf(hung(below, 6, 2*place))...)
		}
	}
}

// heightOf is how deep the deepest node lies.
func heightOf(t *node.Node) int {
	if t == nil {
		return 0
	}
	return 1 + max(heightOf(t.Left()), heightOf(t.Right()))
}

// hung is a full tree of that height, below which a tree hangs at one place of the row.
func hung(below *node.Node, high, place int) *node.Node {
	if high == 0 {
		return below
	}
	l, r := full(high-1, 1), full(high-1, 2)
	if half := 1 << (high - 1); place < half {
		l = hung(below, high-1, place)
	} else {
		r = hung(below, high-1, place-half)
	}
	return above(l, high, r)
}

// TestSameOfAny (P11.1): two trees are the same if, and only if, they have the same beads; each is the same as itself, and as one that is made apart.
func TestSameOfAny(t *testing.T) {
	l := trees()
	var beads [][]api.Bead
	for _, x := range l {
		beads = append(beads, beadsOf(x))
	}
	for k, x := range l {
		if !shape.Same(x, x) || !shape.Same(x, again(x)) || !shape.Same(again(x), x) {
			t.Errorf("%s is not the same as itself", lineOf(x))
		}
		for m, y := range l {
			if want := slices.Equal(beads[k], beads[m]); shape.Same(x, y) != want {
				t.Errorf("%s and %s: %t", lineOf(x), lineOf(y), !want)
			}
		}
	}
}

// TestSameOfEmpty (P11.1): the empty tree is the same as itself alone: a node of noughts is another tree.
func TestSameOfEmpty(t *testing.T) {
	if !shape.Same(nil, nil) {
		t.Error("nothing is not the same as itself")
	}
	for _, x := range trees()[1:] {
		if shape.Same(x, nil) || shape.Same(nil, x) {
			t.Errorf("%s is the same as nothing", lineOf(x))
		}
	}
}

// changed is a tree like another one, whose node at one place of its beads is another: of what it was made of and what is below it.
func changed(t *node.Node, place int, change func(n *node.Node) *node.Node) *node.Node {
	if t == nil {
		return nil
	}
	if place == 0 {
		return change(t)
	}
	if left := t.Left().Size(); place > left {
		return node.New(t.Left(), t.Key(), t.Val(), t.Tag(), changed(t.Right(), place-1-left, change))
	}
	return node.New(changed(t.Left(), place-1, change), t.Key(), t.Val(), t.Tag(), t.Right())
}

// TestSameButOne (P11.1): trees that differ in one node, wherever it stands: in its key, its value, its tag, its sides, in one node more, or less.
func TestSameButOne(t *testing.T) {
	changes := map[string]func(n *node.Node) *node.Node{
		"key": func(n *node.Node) *node.Node { return node.New(n.Left(), n.Key()+1, n.Val(), n.Tag(), n.Right()) },
		"val": func(n *node.Node) *node.Node { return node.New(n.Left(), n.Key(), n.Val()-1, n.Tag(), n.Right()) },
		"high": func(n *node.Node) *node.Node {
			return node.New(n.Left(), n.Key()^math.MinInt64, n.Val(), n.Tag(), n.Right())
		},
		"tag": func(n *node.Node) *node.Node { return node.New(n.Left(), n.Key(), n.Val(), n.Tag()^1<<63, n.Right()) },
		"more": func(n *node.Node) *node.Node {
			return node.New(leaf(n.Key(), 0, n.Tag()), n.Key(), n.Val(), n.Tag(), n)
		},
		"over":  func(n *node.Node) *node.Node { return node.New(n, 0, 0, 0, nil) },
		"under": func(n *node.Node) *node.Node { return n.Left() },
		"none":  func(n *node.Node) *node.Node { return nil },
	}
	for _, x := range trees() {
		for name, change := range changes {
			for place := range x.Size() {
				y := changed(x, place, change)
				if shape.Same(x, y) || shape.Same(y, x) || shape.Same(again(x), y) {
					t.Errorf("%s: %s and %s are the same", name, lineOf(x), lineOf(y))
				}
			}
		}
	}
}

// TestSameButSides (P11.1): trees of the same pairs, whose shapes differ; trees that are each other's mirrors; and values that only come to the same together.
func TestSameButSides(t *testing.T) {
	a, b := leaf(1, 5, 0), leaf(1, 5, 0)
	for _, two := range [][2]*node.Node{
		{node.New(a, 2, 5, 0, nil), node.New(nil, 2, 5, 0, a)},
		{node.New(a, 2, 5, 0, nil), node.New(nil, 1, 5, 0, leaf(2, 5, 0))},
		{node.New(a, 1, 5, 0, nil), node.New(nil, 1, 5, 0, a)},
		{node.New(node.New(a, 1, 5, 0, nil), 1, 5, 0, b), node.New(node.New(nil, 1, 5, 0, a), 1, 5, 0, b)},
		{node.New(node.New(a, 1, 5, 0, b), 1, 5, 0, nil), node.New(node.New(a, 1, 5, 0, nil), 1, 5, 0, b)},
		{node.New(node.New(a, 1, 5, 0, nil), 1, 5, 0, b), node.New(a, 1, 5, 0, node.New(b, 1, 5, 0, nil))},
		{node.New(leaf(1, 3, 0), 2, 4, 0, leaf(3, 5, 0)), node.New(leaf(1, 5, 0), 2, 4, 0, leaf(3, 3, 0))},
		{node.New(leaf(1, 3, 0), 2, 4, 0, nil), node.New(leaf(1, 4, 0), 2, 3, 0, nil)},
		{node.New(leaf(1, 3, 7), 2, 4, 8, nil), node.New(leaf(1, 3, 8), 2, 4, 7, nil)},
	} {
		if shape.Same(two[0], two[1]) || shape.Same(two[1], two[0]) {
			t.Errorf("%s and %s are the same", lineOf(two[0]), lineOf(two[1]))
		}
	}
}

// TestSameOfShared (P11.1): a tree in which a node stands twice is the same as one in which two that look alike stand; a node that both trees share says nothing of the others.
func TestSameOfShared(t *testing.T) {
	x := full(6, 1)
	for _, two := range [][2]*node.Node{
		{node.New(x, 1, 2, 3, x), node.New(x, 1, 2, 3, again(x))},
		{node.New(x, 1, 2, 3, x), node.New(again(x), 1, 2, 3, again(x))},
		{node.New(x, 1, 2, 3, nil), node.New(again(x), 1, 2, 3, nil)},
		{twins(9), again(twins(9))},
	} {
		if !shape.Same(two[0], two[1]) || !shape.Same(two[1], two[0]) {
			t.Errorf("%s and %s are not the same", lineOf(two[0]), lineOf(two[1]))
		}
	}
	for _, two := range [][2]*node.Node{
		{node.New(x, 1, 2, 3, leaf(4, 5, 6)), node.New(x, 1, 2, 3, leaf(4, 5, 7))},
		{node.New(leaf(4, 5, 6), 1, 2, 3, x), node.New(leaf(4, 5, 7), 1, 2, 3, x)},
		{node.New(x, 1, 2, 3, x), node.New(x, 1, 2, 4, x)},
		{node.New(x, 1, 2, 3, x.Left()), node.New(x.Left(), 1, 2, 3, x)},
	} {
		if shape.Same(two[0], two[1]) || shape.Same(two[1], two[0]) {
			t.Errorf("%s and %s are the same", lineOf(two[0]), lineOf(two[1]))
		}
	}
}

// TestDeepTrees (R1, P11.1, P11.2): List, Same and Line of trees that are far deeper than Make and Read let them be: they need no memory of calls for each node above another.
func TestDeepTrees(t *testing.T) {
	const deep = 200_000
	defer debug.SetMaxStack(debug.SetMaxStack(1 << 18))
	for way := range ways {
		x, like := deepTree(deep, way, nil), deepTree(deep, way, nil)
		l := shape.List(x)
		if len(l) != deep || l[0].Size != deep || l[deep-1].Size != 1 || l[deep-1].Key != numberAt(0) {
			t.Errorf("%d beads", len(l))
		}
		seeUnmade(t, api.ErrLong, l...)
		if !shape.Same(x, like) || shape.Same(x, deepTree(deep-1, way, nil)) || shape.Same(x, deepTree(deep, (way+1)%ways, nil)) {
			t.Error("a deep tree is not the same as one that is made apart")
		}
		ahead, behind := "", ""
		for k := range 30 {
			own := lineOf(above(nil, deep-1-k, nil))
			if own = own[2 : len(own)-2]; way == leftward || way == zigzag && (deep-1-k)%2 == 0 {
				ahead, behind = ahead+"(", own+".)"+behind
			} else {
				ahead, behind = ahead+"(."+own, ")"+behind
			}
		}
		line := shape.Line(x)
		if line[:len(ahead)] != ahead || line[len(line)-len(behind):] != behind {
			t.Errorf("%s .. %s, not %s .. %s", line[:len(ahead)], line[len(line)-len(behind):], ahead, behind)
		}
		seeUnread(t, api.ErrLong, line)
	}
}

// TestDeepestWithSmallStack (R1, P11.1, P11.2): as deep as may be is made, and read, and so is refused what is deeper, without much memory of calls.
func TestDeepestWithSmallStack(t *testing.T) {
	defer debug.SetMaxStack(debug.SetMaxStack(1 << 23))
	for way := range ways {
		for _, deep := range []int{api.MaxDeep, api.MaxDeep + 1, api.MaxBeads} {
			x := deepTree(deep, way, nil)
			got, e := shape.Make(shape.List(x)...)
			if is := deep == api.MaxDeep; is != (e == api.OK) || is != shape.Same(got, x) {
				t.Errorf("%d deep: %v", deep, e)
			}
		}
	}
	for _, begun := range []string{"(", "(. 1:1 "} {
		seeUnread(t, api.ErrForm, strings.Repeat(begun, api.MaxLine/len(begun)))
	}
}
