package treap_test

import (
	"slices"
	"testing"

	"joinery/api"
	"joinery/node"
	"joinery/shape"
	"joinery/treap"
)

// seeOnly fails the test, unless of all trees of these items, from left to right, Of is one that may be, and, if they are unlike, the only one.
func seeOnly(t *testing.T, l []api.Item) {
	t.Helper()
	x := treap.Of(l...)
	seeMay(t, x)
	seeItems(t, x, l)
	may, same := 0, 0
	for _, other := range treesOf(l) {
		if !treap.May(other) {
			continue
		}
		may++
		if shape.Same(other, x) {
			same++
		}
	}
	if same != 1 || areUnlike(l) && may != 1 {
		t.Errorf("of %v there are %d trees that may be, %d of them the one that was made", l, may, same)
	}
}

// TestOnlyOne (P20.3): all rows of few items: of all trees that there are of them Of is one that may be, and of unlike ones there is no other.
func TestOnlyOne(t *testing.T) {
	see := func(l []api.Item) { seeOnly(t, l) }
	for count := range 5 {
		rows(count, someItems([]int64{-1, 0}, []uint64{0, 1}), see)
	}
	rows(3, someItems([]int64{-1, 0, 1}, []uint64{0, 1 << 63, top}), see)
	c := chance(9)
	for range 100 {
		seeOnly(t, c.items(7, 5))
		seeOnly(t, c.items(6, 1<<20))
	}
}

// TestSeveral (P20.3): of items that are the same there are several trees that may be, so that unlike ones alone tell one.
func TestSeveral(t *testing.T) {
	x := item(1, 2)
	for _, other := range treesOf([]api.Item{x, x, x}) {
		seeMay(t, other)
		seeItems(t, other, []api.Item{x, x, x})
	}
}

// TestMayOf (P20.3): trees of any items may be, and have just these, in order.
func TestMayOf(t *testing.T) {
	for count := range 5 {
		rows(count, someItems([]int64{-3, 3}, []uint64{0, top}), func(l []api.Item) {
			x := treap.Of(l...)
			seeMay(t, x)
			seeItems(t, x, l)
		})
	}
	c := chance(10)
	for count := range 300 {
		l := c.items(count, 1+c.below(2*count+1))
		x := treap.Of(l...)
		seeMay(t, x)
		seeItems(t, x, l)
	}
}

// heap is a treap of these items, found otherwise: one by one, each put in where it stands among those that there are, and turned up as far as it stands above others.
func heap(l []api.Item) *node.Node {
	var t *node.Node
	for _, x := range l {
		t = putLast(t, x)
	}
	return t
}

// putLast is a treap with one item more on its right.
func putLast(t *node.Node, x api.Item) *node.Node {
	if t == nil {
		return over(nil, x, nil)
	}
	r := putLast(t.Right(), x)
	if isAbove(itemOf(r), itemOf(t)) {
		return over(over(t.Left(), itemOf(t), r.Left()), itemOf(r), r.Right())
	}
	return over(t.Left(), itemOf(t), r)
}

// TestTwoTreaps (P20.3): two treaps of the same unlike items are the same, bead by bead, however they were made; and what is made of a treap's items is it.
func TestTwoTreaps(t *testing.T) {
	c := chance(11)
	unlike := 0
	for count := range 200 {
		l := c.items(count, 10+c.below(10*count+1))
		if !areUnlike(l) {
			continue
		}
		unlike++
		x := heap(l)
		seeMay(t, x)
		seeSame(t, treap.Of(l...), x)
		seeSame(t, treap.Of(treap.Items(x)...), x)
	}
	if unlike < 100 {
		t.Errorf("of the test's own rows %d are unlike", unlike)
	}
}

// TestOfItems (P20.3): every small treap of unlike items is the tree of its items; so is whatever Of made, once more, and each side of it.
func TestOfItems(t *testing.T) {
	treaps := 0
	for count := range 5 {
		for _, x := range shapes(count, someItems([]int64{-1, 1}, []uint64{0, 1 << 63})) {
			if !treap.May(x) || !areUnlike(itemsByWords(x)) {
				continue
			}
			treaps++
			seeSame(t, treap.Of(treap.Items(x)...), x)
		}
	}
	// Each order of some of four unlike items has its treap: 1 + 4 + 12 + 24 + 24.
	if treaps != 65 {
		t.Errorf("there are %d treaps", treaps)
	}
	c := chance(12)
	for range 200 {
		x := treap.Of(c.items(1+c.below(60), 1+c.below(30))...)
		seeSame(t, treap.Of(treap.Items(x)...), x)
		for _, n := range beadsOf(x) {
			seeMay(t, n)
			seeSame(t, treap.Of(treap.Items(n)...), n)
		}
	}
}

// seen is what a node tells.
type seen struct {
	left, right *node.Node
	item        api.Item
	sum         int64
	size        int
}

// look is what all nodes of these trees tell.
func look(trees []*node.Node) map[*node.Node]seen {
	at := map[*node.Node]seen{}
	for _, x := range trees {
		for _, n := range beadsOf(x) {
			at[n] = seen{n.Left(), n.Right(), itemOf(n), n.Sum(), n.Size()}
		}
	}
	return at
}

// told is all that is answered of a tree, but its items.
type told struct {
	at                int
	e                 api.Errno
	may, mixed, above bool
}

// ask asks all that there is of a tree.
func ask(x *node.Node) (told, []api.Item) {
	at, e := treap.Check(x)
	return told{at, e, treap.May(x), treap.Mixed(x), treap.Above(x, x.Left())}, treap.Items(x)
}

// TestTreesStay (R5, R6, P20.1, P20.2): no call changes a tree or items that were handed in, and an answer hangs on what is given alone: asked again, behind others, it is the same.
func TestTreesStay(t *testing.T) {
	c := chance(13)
	trees := append(c.grove(40), flat(5, item(3, 3)), mixedLike(flat(5, item(0, 0))), twins(7), deepOver(nil, 50, zigzag, func(k int) api.Item { return item(int64(k), 1) }), treap.Of(c.items(60, 20)...))
	then := look(trees)
	var first []told
	var items [][]api.Item
	for _, x := range trees {
		answer, l := ask(x)
		first, items = append(first, answer), append(items, l)
	}
	for range 2 {
		for k, x := range trees {
			for _, y := range trees {
				treap.Above(x, y)
			}
			seeSame(t, treap.Of(items[k]...), treap.Of(items[k]...))
			if answer, l := ask(x); answer != first[k] || !slices.Equal(l, items[k]) || !slices.Equal(l, itemsByWords(x)) {
				t.Errorf("%+v became %+v, of %s", first[k], answer, lineOf(x))
			}
		}
	}
	now := look(trees)
	if len(now) != len(then) {
		t.Errorf("%d nodes became %d", len(then), len(now))
	}
	for n, was := range then {
		if now[n] != was {
			t.Errorf("%+v became %+v", was, now[n])
		}
	}
}
