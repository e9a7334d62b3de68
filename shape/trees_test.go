package shape_test

import (
	"math"
	"strconv"
	"strings"
	"testing"

	"joinery/api"
	"joinery/node"
	"joinery/shape"
)

// numbers are keys and values: the least and the greatest, those around 0, such as gain a digit, others of either sign; they do not rise.
func numbers() []int64 {
	return []int64{
		7, math.MinInt64, -1, math.MaxInt64, 0, -1 << 62, 1, math.MaxInt64 - 1, -9, 10,
		-10, 1 << 32, math.MinInt64 + 1, 99, 100, -100, 9_000_000_000_000_000_000, -1 << 32,
	}
}

// tags are a scheme's numbers: none, small ones, those about a word's middle, the greatest.
func tags() []uint64 {
	return []uint64{0, 1, 2, 9, 10, 1 << 32, 1<<63 - 1, 1 << 63, 10_000_000_000_000_000_000, math.MaxUint64 - 1, math.MaxUint64}
}

// numberAt and tagAt are one for each place, which go round.
func numberAt(place int) int64 { return numbers()[place%len(numbers())] }
func tagAt(place int) uint64   { return tags()[place%len(tags())] }

// leaf is a node of two empty trees.
func leaf(key, val int64, tag uint64) *node.Node { return node.New(nil, key, val, tag, nil) }

// above is a node of its own for each place, over two trees.
func above(l *node.Node, place int, r *node.Node) *node.Node {
	return node.New(l, numberAt(place), numberAt(2*place+1), tagAt(place), r)
}

// The ways that a deep tree goes.
const (
	leftward = iota
	rightward
	zigzag
	ways
)

// deepTree is a tree so deep, with another tree on the other side of each node.
func deepTree(deep, way int, other *node.Node) *node.Node {
	var t *node.Node
	for k := range deep {
		if way == leftward || way == zigzag && k%2 == 0 {
			t = above(t, k, other)
		} else {
			t = above(other, k, t)
		}
	}
	return t
}

// full is a tree of all nodes that there may be of that height, each of its own.
func full(high, from int) *node.Node {
	if high == 0 {
		return nil
	}
	return above(full(high-1, 2*from), from, full(high-1, 2*from+1))
}

// even is a tree of so many nodes, about as low as they let it be, each planted by its place in the row.
func even(count, from int, plant func(l *node.Node, place int, r *node.Node) *node.Node) *node.Node {
	if count == 0 {
		return nil
	}
	left := count / 2
	return plant(even(left, from, plant), from+left, even(count-left-1, from+left+1, plant))
}

// twins is a tree in which each node has the same tree on both its sides, so high.
func twins(high int) *node.Node {
	var t *node.Node
	for k := range high {
		t = above(t, k, t)
	}
	return t
}

// shapes are all trees that there may be of so many nodes.
func shapes(count int) []*node.Node {
	if count == 0 {
		return []*node.Node{nil}
	}
	var all []*node.Node
	for left := range count {
		for _, l := range shapes(left) {
			for _, r := range shapes(count - 1 - left) {
				all = append(all, above(l, len(all), r))
			}
		}
	}
	return all
}

// trees are trees of many shapes: the empty one, leaves, those of one side, those that share, deep ones, full ones, and all small ones.
func trees() []*node.Node {
	l := []*node.Node{nil, leaf(0, 0, 0)}
	for k := range numbers() {
		l = append(l, above(nil, k, nil))
	}
	one, other := l[2], l[3]
	both := node.New(one, 3, 4, 5, other)
	l = append(l,
		node.New(one, 1, 2, 3, nil), node.New(nil, 1, 2, 3, one), node.New(one, 1, 2, 3, one), node.New(one, 7, 7, 7, one),
		both, node.New(both, 0, 0, 0, one), node.New(other, -1, -1, 7, both), node.New(both, 3, 4, 5, both),
		full(2, 1), full(3, 1), full(7, 1), twins(2), twins(3), twins(7), even(100, 3, above),
		node.New(full(4, 1), 5, 5, 5, deepTree(9, leftward, nil)), node.New(deepTree(20, zigzag, one), 5, 5, 5, full(5, 1)),
	)
	for way := range ways {
		l = append(l, deepTree(2, way, nil), deepTree(50, way, nil), deepTree(21, way, one), deepTree(9, way, both))
	}
	for count := range 6 {
		l = append(l, shapes(count+1)...)
	}
	return l
}

// chance is a row of numbers that is the same in each run.
type chance uint64

// below is a number from 0 to most - 1.
func (c *chance) below(most int) int {
	*c = *c*6364136223846793005 + 1442695040888963407
	return int(uint64(*c) >> 33 % uint64(most))
}

// drawn is a tree of so many nodes, of any shape.
func (c *chance) drawn(count int) *node.Node {
	if count == 0 {
		return nil
	}
	left := c.below(count)
	return node.New(c.drawn(left), numberAt(c.below(40)), numberAt(c.below(40)), tagAt(c.below(40)), c.drawn(count-1-left))
}

// again is a tree that looks the same, and has no node of the first one.
func again(t *node.Node) *node.Node {
	if t == nil {
		return nil
	}
	return node.New(again(t.Left()), t.Key(), t.Val(), t.Tag(), again(t.Right()))
}

// beadsOf are a tree's beads, by the chapter's words.
func beadsOf(t *node.Node) []api.Bead { return withBeads(nil, t) }

func withBeads(l []api.Bead, t *node.Node) []api.Bead {
	if t == nil {
		return l
	}
	l = append(l, api.Bead{
		Key: t.Key(), Val: t.Val(), Sum: t.Sum(), Size: t.Size(), Tag: t.Tag(),
		Left: t.Left() != nil, Right: t.Right() != nil,
	})
	return withBeads(withBeads(l, t.Left()), t.Right())
}

// lineOf is a tree's line, by the chapter's words.
func lineOf(t *node.Node) string { return string(withLine(nil, t)) }

func withLine(line []byte, t *node.Node) []byte {
	if t == nil {
		return append(line, '.')
	}
	own := " " + strconv.FormatInt(t.Key(), 10) + ":" + strconv.FormatInt(t.Val(), 10)
	if t.Tag() != 0 {
		own += "#" + strconv.FormatUint(t.Tag(), 10)
	}
	line = append(withLine(append(line, '('), t.Left()), own+" "...)
	return append(withLine(line, t.Right()), ')')
}

// short is the beginning of a text, where the text is long.
func short(s string) string {
	if len(s) > 200 {
		return s[:200] + ".."
	}
	return s
}

// seeTree fails the test, unless got is a tree of just these nodes.
func seeTree(t *testing.T, got, want *node.Node) {
	t.Helper()
	for got != nil && want != nil {
		if got.Key() != want.Key() || got.Val() != want.Val() || got.Tag() != want.Tag() || got.Size() != want.Size() || got.Sum() != want.Sum() {
			t.Errorf("a node %d:%d#%d of size %d, sum %d is not %d:%d#%d of size %d, sum %d", got.Key(), got.Val(), got.Tag(), got.Size(), got.Sum(),
				want.Key(), want.Val(), want.Tag(), want.Size(), want.Sum())
		}
		// A deep tree is gone down without calls within calls.
		if want.Left().Size() < want.Right().Size() {
			seeTree(t, got.Left(), want.Left())
			got, want = got.Right(), want.Right()
		} else {
			seeTree(t, got.Right(), want.Right())
			got, want = got.Left(), want.Left()
		}
	}
	if got != want {
		t.Errorf("of %d nodes there is a tree of %d", want.Size(), got.Size())
	}
}

// seeMade fails the test, unless these beads make that tree.
func seeMade(t *testing.T, want *node.Node, l ...api.Bead) {
	t.Helper()
	got, e := shape.Make(l...)
	if e != api.OK {
		t.Fatalf("Make of %d beads: %v", len(l), e)
	}
	seeTree(t, got, want)
}

// seeUnmade fails the test, unless these beads make no tree, with that error.
func seeUnmade(t *testing.T, want api.Errno, l ...api.Bead) {
	t.Helper()
	if got, e := shape.Make(l...); got != nil || e != want {
		t.Errorf("Make of %d beads: a tree of %d, %v, not %v", len(l), got.Size(), e, want)
	}
}

// seeRead fails the test, unless that tree is read.
func seeRead(t *testing.T, want *node.Node, s string) {
	t.Helper()
	got, e := shape.Read(s)
	if e != api.OK {
		t.Fatalf("Read of %q: %v", short(s), e)
	}
	seeTree(t, got, want)
}

// seeUnread fails the test, unless no tree is read, with that error.
func seeUnread(t *testing.T, want api.Errno, s string) {
	t.Helper()
	if got, e := shape.Read(s); got != nil || e != want {
		t.Errorf("Read of %q, %d bytes: a tree of %d, %v, not %v", short(s), len(s), got.Size(), e, want)
	}
}

// seeLine fails the test, unless a tree's line is this.
func seeLine(t *testing.T, x *node.Node, want string) {
	t.Helper()
	got := shape.Line(x)
	if got == want {
		return
	}
	at := 0
	for at < min(len(got), len(want)) && got[at] == want[at] {
		at++
	}
	t.Errorf("a line of %d bytes, not %d, has %q at %d, not %q", len(got), len(want), short(got[at:]), at, short(want[at:]))
}

// fitted is a line of so many bytes, of a tree of so many beads, and that tree: its values have as many digits as that needs, which must not be too many.
func fitted(count, bytes int) (string, *node.Node) {
	left, spare := count, bytes-(8*count+1)
	t := even(count, 0, func(l *node.Node, place int, r *node.Node) *node.Node {
		more := spare / left
		left, spare = left-1, spare-more
		val, _ := strconv.ParseInt(strings.Repeat("7", 1+more), 10, 64)
		return node.New(l, int64(place%10), val, 0, r)
	})
	return lineOf(t), t
}
