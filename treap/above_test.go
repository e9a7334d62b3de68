package treap_test

import (
	"testing"

	"joinery/api"
	"joinery/node"
	"joinery/treap"
)

// seeAbove fails the test, unless Above of two trees, either way, is that.
func seeAbove(t *testing.T, a, b *node.Node, is, isTurned bool) {
	t.Helper()
	if got := treap.Above(a, b); got != is {
		t.Errorf("Above(%s, %s): %t", lineOf(a), lineOf(b), got)
	}
	if got := treap.Above(b, a); got != isTurned {
		t.Errorf("Above(%s, %s): %t", lineOf(b), lineOf(a), got)
	}
}

// TestAbove (P20.1): the greater tag stands above the lesser one; of one tag the greater key does; of one tag and one key none does.
func TestAbove(t *testing.T) {
	for _, c := range []struct {
		a, b         api.Item
		is, isTurned bool
	}{
		{item(1, 2), item(1, 1), true, false},
		{item(1, 2), item(9, 1), true, false},
		{item(9, 2), item(1, 1), true, false},
		{item(2, 7), item(1, 7), true, false},
		{item(1, 7), item(-1, 7), true, false},
		{item(0, 7), item(-1, 7), true, false},
		{item(-1, 7), item(-2, 7), true, false},
		{item(3, 7), item(3, 7), false, false},
		{item(0, 0), item(0, 0), false, false},
		{item(0, 1), item(0, 0), true, false},
		{item(1, 0), item(0, 0), true, false},
		{item(-5, top), item(5, 1<<63), true, false},
		{item(5, 1<<63), item(6, 1<<63-1), true, false},
		{item(-1, 1<<63), item(1, 1), true, false},
	} {
		seeAbove(t, over(nil, c.a, nil), over(nil, c.b, nil), c.is, c.isTurned)
	}
}

// TestAboveAll (P20.1): tags of all sizes, with keys of all sizes: each node stands above all that lie ahead of it in the list, by their tags, then by their keys, and above none else.
func TestAboveAll(t *testing.T) {
	var l []*node.Node
	for _, tag := range tags() {
		for _, key := range keys() {
			l = append(l, over(nil, item(key, tag), nil))
		}
	}
	for k, a := range l {
		for m, b := range l {
			seeAbove(t, a, b, k > m, m > k)
		}
	}
}

// TestAboveEmpty (P20.1): an empty tree stands neither above nor below another one, nor an empty one.
func TestAboveEmpty(t *testing.T) {
	seeAbove(t, nil, nil, false, false)
	for _, tag := range tags() {
		for _, key := range keys() {
			seeAbove(t, over(nil, item(key, tag), nil), nil, false, false)
		}
	}
	seeAbove(t, flat(3, item(-5, 0)), nil, false, false)
	seeAbove(t, flat(3, item(5, top)), nil, false, false)
}

// TestAboveItself (P20.1): no node stands above itself.
func TestAboveItself(t *testing.T) {
	c := chance(1)
	for _, x := range append(c.grove(60), over(nil, item(0, 0), nil), over(nil, item(9, top), nil), twins(62)) {
		seeAbove(t, x, x, false, false)
	}
}

// TestAboveTellsOfTwo (P20.1): the tags and keys of two nodes alone tell: not what their sides are, nor their values, sizes or sums.
func TestAboveTellsOfTwo(t *testing.T) {
	with := func(x api.Item, val int64, l, r *node.Node) *node.Node { return node.New(l, x.Key, val, x.Tag, r) }
	sides := []*node.Node{nil, flat(1, item(9, top)), flat(2, item(-9, 0)), twins(30), twins(61)}
	lows := []api.Item{item(4, 6), item(5, 5), item(-5, 6)}
	x := item(5, 6)
	for k, l := range sides {
		for m, r := range sides {
			for _, val := range keys() {
				a := with(x, val, l, r)
				seeAbove(t, a, with(x, -val, r, l), false, false)
				seeAbove(t, a, with(x, val+1, nil, nil), false, false)
				for _, low := range lows {
					seeAbove(t, a, with(low, 7, sides[m], sides[k]), true, false)
					seeAbove(t, with(x, 7, nil, sides[k]), with(low, val, l, r), true, false)
				}
			}
		}
	}
	// One stands in the other.
	inner := over(nil, item(5, 6), nil)
	seeAbove(t, over(inner, item(5, 6), inner), inner, false, false)
	seeAbove(t, over(inner, item(5, 5), nil), inner, false, true)
	seeAbove(t, over(nil, item(6, 6), inner), inner, true, false)
}
