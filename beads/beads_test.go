package beads_test

import (
	"runtime/debug"
	"slices"
	"testing"

	"joinery/beads"
	"joinery/node"
)

// met is a node, and the place at which it was told.
type met struct {
	place int
	n     *node.Node
}

// over is a node over two trees.
func over(l, r *node.Node) *node.Node { return node.New(l, 1, 2, 3, r) }

// full is a tree of nodes that are all of their own, so high.
func full(high int) *node.Node {
	if high == 0 {
		return nil
	}
	return over(full(high-1), full(high-1))
}

// metIn are all that are told of a tree.
func metIn(t *node.Node) []met {
	var l []met
	for place, n := range beads.Once(t) {
		l = append(l, met{place, n})
	}
	return l
}

// firstsOf are a tree's nodes, each at its first place: each place is gone to.
func firstsOf(t *node.Node) []met {
	var l []met
	place := 0
	been := map[*node.Node]bool{}
	var goTo func(n *node.Node)
	goTo = func(n *node.Node) {
		if n == nil {
			return
		}
		if !been[n] {
			l = append(l, met{place, n})
		}
		been[n] = true
		place++
		goTo(n.Left())
		goTo(n.Right())
	}
	goTo(t)
	return l
}

// TestOnce: the nodes of small trees, in the order of their beads: the empty tree, one node, sides on the left, on the right, on both.
func TestOnce(t *testing.T) {
	a, b := full(1), full(1)
	l, r, both := over(a, nil), over(nil, a), over(a, b)
	all := over(l, over(nil, b))
	for k, c := range []struct {
		x    *node.Node
		want []met
	}{
		{nil, nil},
		{a, []met{{0, a}}},
		{l, []met{{0, l}, {1, a}}},
		{r, []met{{0, r}, {1, a}}},
		{both, []met{{0, both}, {1, a}, {2, b}}},
		{all, []met{{0, all}, {1, l}, {2, a}, {3, all.Right()}, {4, b}}},
	} {
		if got := metIn(c.x); !slices.Equal(got, c.want) {
			t.Errorf("%d: %v, not %v", k, got, c.want)
		}
	}
}

// TestOnceAgain: a node that stands somewhere again is not told there, nor what is below it, but all its places count.
func TestOnceAgain(t *testing.T) {
	a, b := full(2), full(1)
	for k, x := range []*node.Node{
		over(a, a), over(b, over(b, b)), over(over(a, b), over(b, a)), over(over(a, a), b), over(over(a, a), over(over(a, a), b)),
		over(a.Left(), over(a, b)), over(a, over(a.Left(), b)), full(6),
	} {
		if got, want := metIn(x), firstsOf(x); !slices.Equal(got, want) {
			t.Errorf("%d: %v, not %v", k, got, want)
		}
	}
	x, last := full(1), full(1)
	for range 61 {
		x = over(x, x)
	}
	top := over(x, last)
	got := metIn(top)
	if len(got) != 64 || got[63] != (met{1 << 62, last}) {
		t.Errorf("a tree of %d nodes: %d are told, the last one at %d", top.Size(), len(got), got[len(got)-1].place)
	}
}

// TestOnceLeft: who stops is told no more; who goes over a tree again is told all of it again.
func TestOnceLeft(t *testing.T) {
	x := full(4)
	all := beads.Once(x)
	for most := 1; most <= x.Size(); most++ {
		count := 0
		for place, n := range all {
			if place != count || n == nil {
				t.Errorf("the place %d, not %d", place, count)
			}
			if count++; count == most {
				break
			}
		}
		if count != most {
			t.Errorf("%d were told, not %d", count, most)
		}
	}
	if !slices.Equal(metIn(x), firstsOf(x)) {
		t.Error("the tree is told otherwise at last")
	}
}

// TestOnceDeep: trees that are as deep as they have nodes need no memory of calls for each of them.
func TestOnceDeep(t *testing.T) {
	const deep = 200_000
	defer debug.SetMaxStack(debug.SetMaxStack(1 << 18))
	var l, r *node.Node
	for range deep {
		l, r = over(l, nil), over(nil, r)
	}
	if got := len(metIn(over(l, r))); got != 2*deep+1 {
		t.Errorf("%d are told", got)
	}
}
