package sound_test

import (
	"math"
	"slices"
	"testing"

	"joinery/api"
	"joinery/node"
	"joinery/order"
	"joinery/sound"
)

// TestJustIfKeysRise (P12.3): a tree is sound just if its keys, from left to right, rise; and it is exact, whether it is sound or not.
func TestJustIfKeysRise(t *testing.T) {
	c := chance(3)
	been := map[bool]int{}
	for round := range 6000 {
		o := orders()[round%api.Orders]
		count := 1 + c.below(24)
		keys := rising(o, c.keys(count))
		switch c.below(4) {
		case 0:
			// Two keys that are next to each other change their places.
			k := c.below(count)
			m := max(0, k-1)
			keys[k], keys[m] = keys[m], keys[k]
		case 1:
			keys[c.below(count)] = keys[c.below(count)]
		case 2:
			keys[c.below(count)] = numberAt(c.below(99))
		}
		x := planted(c.shape(count), keys)
		rise := doRise(o, keysOf(x))
		been[rise]++
		at, e := sound.Check(o, x)
		if rise && (at != count || e != api.OK) || !rise && e != api.ErrOrder {
			t.Errorf("by %s, of %v: %d, %v", order.Name(o), keys, at, e)
		}
		if !sound.Exact(x) {
			t.Errorf("%v are not exact", keys)
		}
	}
	if been[true] < 1000 || been[false] < 1000 {
		t.Errorf("the test's own trees: %v", been)
	}
}

// TestShapeSaysNothing (P12.3): whether keys rise is told of all trees of the same keys, in the same row, alike.
func TestShapeSaysNothing(t *testing.T) {
	for _, o := range orders() {
		keys := rising(o, numbers())[:5]
		for k := range 5 {
			other := slices.Clone(keys)
			other[k], other[0] = other[0], other[k]
			for _, shape := range shapes(5) {
				_, e := sound.Check(o, planted(shape, other))
				if (e == api.OK) != (k == 0) {
					t.Errorf("by %s, of %v: %v", order.Name(o), other, e)
				}
			}
		}
	}
}

// TestTwoAndAKey (P12.3): two sound trees, one ahead of the other one, with a key between them make a sound one; with a key that is not between them, or one that they have, they make none.
func TestTwoAndAKey(t *testing.T) {
	for _, o := range orders() {
		keys := rising(o, numbers())
		for _, first := range smallShapes(4) {
			for _, second := range smallShapes(3) {
				n, m := first.Size(), second.Size()
				// The row's first key, the one between, and its last one are in neither tree.
				a, b := planted(first, keys[1:n+1]), planted(second, keys[n+2:n+2+m])
				seeAhead(t, o, a, b, true)
				for place, key := range keys {
					if place <= n && n > 0 || place >= n+2 && m > 0 {
						seeUnsound(t, o, over(a, key, b))
					} else {
						seeSound(t, o, over(a, key, b))
					}
				}
				if n > 0 && m > 0 {
					seeUnsound(t, o, over(b, keys[n+1], a))
				}
			}
		}
	}
}

// seeUnsound fails the test, unless a node of a tree is wrong, the one that is told.
func seeUnsound(t *testing.T, o uint8, x *node.Node) {
	t.Helper()
	l := wrongs(o, x)
	if len(l) == 0 {
		t.Fatalf("by %s: of %d nodes none is wrong", order.Name(o), x.Size())
	}
	seeWrong(t, o, x, l[0])
}

// TestPartsOfSound (P12.3): both sides of a sound tree are sound, one ahead of the other one, with the root's key between them.
func TestPartsOfSound(t *testing.T) {
	c := chance(8)
	for round := range 300 {
		o := orders()[round%api.Orders]
		count := 1 + c.below(50)
		x := planted(c.shape(count), rising(o, c.keys(count)))
		l, r := x.Left(), x.Right()
		seeSound(t, o, l)
		seeSound(t, o, r)
		seeAhead(t, o, l, r, true)
		seeAhead(t, o, l, leaf(x.Key()), true)
		seeAhead(t, o, leaf(x.Key()), r, true)
	}
}

// someTrees are trees of many kinds: empty, sound ones, wrong ones, such as share nodes, deep ones.
func someTrees() []*node.Node {
	l := []*node.Node{nil, leaf(0), leaf(math.MinInt64), twins(5), over(leaf(3), 2, nil), over(leaf(1), 2, leaf(1))}
	for _, shape := range smallShapes(4) {
		n := shape.Size()
		l = append(l, planted(shape, numbers()[:n]), planted(shape, rising(api.OrUp, numbers()[:n])), planted(shape, rising(api.OrMix, numbers()[3:3+n])))
	}
	for way := range ways {
		l = append(l, deepTree(way, rowOf(api.OrUp, 100)))
	}
	return l
}

// seen is what a node tells.
type seen struct {
	left, right   *node.Node
	key, val, sum int64
	tag           uint64
	size          int
}

// note writes down what all nodes of a tree tell.
func note(x *node.Node, at map[*node.Node]seen) {
	if _, is := at[x]; is || x == nil {
		return
	}
	at[x] = seen{x.Left(), x.Right(), x.Key(), x.Val(), x.Sum(), x.Tag(), x.Size()}
	note(x.Left(), at)
	note(x.Right(), at)
}

// TestTreesStay (R5): no call changes a tree.
func TestTreesStay(t *testing.T) {
	then, now := map[*node.Node]seen{}, map[*node.Node]seen{}
	trees := someTrees()
	for _, x := range trees {
		note(x, then)
	}
	for _, x := range trees {
		for _, o := range append(orders(), strangers()...) {
			sound.Check(o, x)
			sound.Ahead(o, x, x)
			sound.Ahead(o, nil, x)
			sound.Ahead(o, x, leaf(math.MaxInt64))
		}
		sound.Exact(x)
	}
	for _, x := range trees {
		note(x, now)
	}
	if len(now) != len(then) {
		t.Errorf("%d nodes became %d", len(then), len(now))
	}
	for n, was := range then {
		if now[n] != was {
			t.Errorf("%+v became %+v", was, now[n])
		}
	}
}

// told is all that is answered of two trees.
type told struct {
	at           int
	e            api.Errno
	exact, ahead bool
}

// ask asks all that there is of two trees.
func ask(o uint8, x, y *node.Node) told {
	at, e := sound.Check(o, x)
	return told{at, e, sound.Exact(x), sound.Ahead(o, x, y)}
}

// TestNothingIsKept (R6): a call's answer hangs on what it is given alone: asked again, behind others, also behind errors, it is the same.
func TestNothingIsKept(t *testing.T) {
	trees := someTrees()
	var first []told
	for round := range 3 {
		n := 0
		for _, o := range append(orders(), strangers()...) {
			for k, x := range trees {
				answer := ask(o, x, trees[len(trees)-1-k])
				if round == 0 {
					first = append(first, answer)
				}
				if answer != first[n] {
					t.Errorf("%+v became %+v", first[n], answer)
				}
				n++
			}
		}
	}
}
