package node_test

import (
	"testing"

	"joinery/node"
)

// seen is what was told of a node at some time, and of all below it.
type seen struct {
	node, left, right *node.Node
	key, val, sum     int64
	tag               uint64
	size              int
}

// look is what a node tells now.
func look(n *node.Node) seen {
	return seen{n, n.Left(), n.Right(), n.Key(), n.Val(), n.Sum(), n.Tag(), n.Size()}
}

// lookAll are a tree's nodes, each once, with what they tell now.
func lookAll(n *node.Node, at map[*node.Node]seen) {
	if _, is := at[n]; is || n == nil {
		return
	}
	at[n] = look(n)
	lookAll(n.Left(), at)
	lookAll(n.Right(), at)
}

// seeStay fails the test, if a node tells now what it did not tell then.
func seeStay(t *testing.T, then map[*node.Node]seen) {
	t.Helper()
	for n, was := range then {
		if is := look(n); is != was {
			t.Fatalf("%+v became %+v", was, is)
		}
	}
}

// TestNewStays (P9.2): a node, and all below it, is as it was, however many are made of it, on either side.
func TestNewStays(t *testing.T) {
	l := trees()
	then := map[*node.Node]seen{}
	for _, n := range l {
		lookAll(n, then)
	}
	for k, n := range l {
		for m, other := range l {
			above := node.New(n, numberAt(k), numberAt(m), tagAt(k+m), other)
			above = node.New(other, numberAt(m), numberAt(k), tagAt(m), above)
			node.New(above, 1, 2, 3, above)
		}
		seeStay(t, then)
	}
}

// TestWithStays (P9.2): a node, and all below it and above it, is as it was, whatever With made of it, also of its own key and value.
func TestWithStays(t *testing.T) {
	for _, n := range trees()[1:] {
		above := node.New(n, 1, 2, 3, n)
		then := map[*node.Node]seen{}
		lookAll(above, then)
		for k := range numbers() {
			n.With(numberAt(k), numberAt(k+4)).With(numberAt(k+1), n.Val())
			n.With(n.Key(), n.Val()).With(n.Key(), numberAt(k))
			above.Left().With(numberAt(k), 5)
			above.Right().With(6, numberAt(k))
			seeStay(t, then)
		}
	}
}

// chance is a row of numbers that is the same in each run.
type chance uint64

// below is a number from 0 to most - 1.
func (c *chance) below(most int) int {
	*c = *c*6364136223846793005 + 1442695040888963407
	return int(uint64(*c) >> 33 % uint64(most))
}

// plain is what a node is, by the chapter's words: what it was made of; its trees by their places in a list, -1 being the empty one.
type plain struct {
	left, right int
	key, val    int64
	tag         uint64
	size        int
	sum         int64
}

// grove is all nodes that were made, and what each of them ought to be.
type grove struct {
	nodes []*node.Node
	want  []plain
}

// at is a tree by its place.
func (g *grove) at(place int) (*node.Node, plain) {
	if place < 0 {
		return nil, plain{}
	}
	return g.nodes[place], g.want[place]
}

// plant makes a node of two that there are.
func (g *grove) plant(left, right int, key, val int64, tag uint64) {
	l, a := g.at(left)
	r, b := g.at(right)
	g.nodes = append(g.nodes, node.New(l, key, val, tag, r))
	g.want = append(g.want, plain{left, right, key, val, tag, a.size + 1 + b.size, a.sum + val + b.sum})
}

// graft makes a node like one that there is.
func (g *grove) graft(place int, key, val int64) {
	n, was := g.at(place)
	g.nodes = append(g.nodes, n.With(key, val))
	want := was
	want.key, want.val, want.sum = key, val, was.sum-was.val+val
	g.want = append(g.want, want)
}

// see fails the test, unless all nodes are what they ought to be.
func (g *grove) see(t *testing.T) {
	t.Helper()
	for k, n := range g.nodes {
		want := g.want[k]
		l, _ := g.at(want.left)
		r, _ := g.at(want.right)
		seeNode(t, n, l, want.key, want.val, want.tag, r)
		seeCount(t, n, want.size, want.sum)
	}
}

// TestAnyWay (P9.1, P9.2): nodes made of any that there are, in any order, New and With by turns: none changes, and no two are one.
func TestAnyWay(t *testing.T) {
	c := chance(9)
	for range 100 {
		var g grove
		for range 60 {
			here := len(g.nodes)
			key, val := numberAt(c.below(100)), numberAt(c.below(100))
			if here > 0 && c.below(3) == 0 {
				g.graft(c.below(here), key, val)
			} else {
				g.plant(c.below(here+1)-1, c.below(here+1)-1, key, val, tagAt(c.below(100)))
			}
		}
		g.see(t)
		own := map[*node.Node]bool{}
		for _, n := range g.nodes {
			own[n] = true
		}
		if len(own) != len(g.nodes) {
			t.Errorf("of %d nodes there are %d", len(g.nodes), len(own))
		}
	}
}
