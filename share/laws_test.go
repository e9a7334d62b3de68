package share_test

import (
	"slices"
	"testing"

	"joinery/node"
	"joinery/share"
)

// TestOneNewNode (P13.3): what is made of trees, by one new node, has one new node, whatever the trees share with each other.
func TestOneNewNode(t *testing.T) {
	c := chance(1)
	for range 60 {
		l := c.grove(30)
		for range 20 {
			a, b := l[c.below(len(l))], l[c.below(len(l))]
			x := node.New(a, 1, 2, 3, b)
			seeNew(t, 1, x, a, b)
			seeNew(t, 1, x, l...)
			seeNodes(t, x, 1+share.Nodes(a)+share.New(b, a))
			seeIn(t, x, a, a != nil)
			seeIn(t, x, b, b != nil)
			seeSame(t, x, a, share.Nodes(a))
			seeSame(t, x, b, share.Nodes(b))
			if a != nil {
				w := a.With(a.Key(), a.Val())
				seeNew(t, 1, w, a)
				seeNew(t, 1, a, w)
				seeSame(t, w, a, share.Nodes(a)-1)
			}
		}
	}
}

// TestNewAndSame (P13.3): what is new in a tree, and what is the same, are all its nodes; all tops together have what is not new.
func TestNewAndSame(t *testing.T) {
	c := chance(2)
	for range 60 {
		l := c.grove(40)
		for range 20 {
			x, y, z := l[c.below(len(l))], l[c.below(len(l))], l[c.below(len(l))]
			if all := share.New(x, y) + share.Same(x, y); all != len(nodesOf(x)) {
				t.Errorf("what is new, and what is the same, are %d of %d nodes", all, len(nodesOf(x)))
			}
			// Old ones under one node are old as they are by themselves.
			both := over(y, 0, z)
			fresh := share.New(x, y, z)
			if all := fresh + share.Same(x, both); all != share.Nodes(x) {
				t.Errorf("with two old ones, what is new, and what is the same, are %d of %d nodes", all, share.Nodes(x))
			}
			seeNew(t, fresh, x, both)
			seeNew(t, fresh, x, share.Tops(x, y, z)...)
			seeTops(t, share.Tops(x, y, z), x, both)
		}
	}
}

// TestAllOfTheSame (P13.3): all of a node that is the same is the same.
func TestAllOfTheSame(t *testing.T) {
	c := chance(3)
	shared := 0
	for range 100 {
		l := c.grove(30)
		x, y := l[c.below(len(l))], l[c.below(len(l))]
		for n := range nodesOf(x) {
			if !share.In(y, n) {
				continue
			}
			shared++
			seeNew(t, 0, n, y)
			seeSame(t, n, y, share.Nodes(n))
			seeTops(t, list(n), n, y)
			for m := range nodesOf(n) {
				seeIn(t, y, m, true)
			}
		}
	}
	if shared < 100 {
		t.Errorf("the test's own trees have %d nodes both", shared)
	}
}

// seen is what a node tells.
type seen struct {
	left, right   *node.Node
	key, val, sum int64
	tag           uint64
	size          int
}

// look is what all nodes of these trees tell.
func look(trees []*node.Node) map[*node.Node]seen {
	at := map[*node.Node]seen{}
	open := slices.Clone(trees)
	for len(open) > 0 {
		n := open[len(open)-1]
		open = open[:len(open)-1]
		if _, is := at[n]; is || n == nil {
			continue
		}
		at[n] = seen{n.Left(), n.Right(), n.Key(), n.Val(), n.Sum(), n.Tag(), n.Size()}
		open = append(open, n.Left(), n.Right())
	}
	return at
}

// told are all numbers that are answered of three trees.
type told struct {
	nodes, fresh, freshOfBoth, same int
	in                              bool
}

// ask asks all that there is of three trees.
func ask(x, y, z *node.Node) (told, []*node.Node) {
	return told{share.Nodes(x), share.New(x, y), share.New(x, y, z), share.Same(x, y), share.In(x, y)}, share.Tops(x, y, z)
}

// someTrees are trees of many kinds: empty, small, full, deep ones, such as share nodes, such as look alike.
func someTrees() []*node.Node {
	c := chance(4)
	x := over(leaf(1), 2, leaf(3))
	l := append(c.grove(12), x, again(x), x.With(2, 0), over(x, 9, x), full(4), twinsOver(x, 70))
	for way := range ways {
		l = append(l, deepOver(x, 100, way))
	}
	return l
}

// TestTreesStay (R5, R6): no call changes a tree, and an answer hangs on what is given alone: asked again, behind others, it is the same.
func TestTreesStay(t *testing.T) {
	trees := someTrees()
	then := look(trees)
	var numbers []told
	var tops [][]*node.Node
	for round := range 3 {
		at := 0
		for k, x := range trees {
			for m, y := range trees {
				answer, l := ask(x, y, trees[(k+m)%len(trees)])
				if round == 0 {
					numbers, tops = append(numbers, answer), append(tops, l)
				}
				if answer != numbers[at] || !slices.Equal(l, tops[at]) {
					t.Errorf("%+v, tops %v became %+v, tops %v", numbers[at], keys(tops[at]), answer, keys(l))
				}
				at++
			}
		}
	}
	now := look(trees)
	if len(now) != len(then) {
		t.Errorf("%d nodes became %d", len(then), len(now))
	}
	for n, was := range then {
		if now[n] != was {
			t.Errorf("%+v became %+v", was, now[n])
		}
	}
}
