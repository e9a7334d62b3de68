package look_test

import (
	"slices"
	"testing"

	"joinery/api"
	"joinery/look"
	"joinery/node"
)

// TestBackIsAll (P10.3): turned about, one is the other.
func TestBackIsAll(t *testing.T) {
	for _, x := range trees() {
		all, back := told(look.All(x)), told(look.Back(x))
		slices.Reverse(back)
		if !slices.Equal(all, back) {
			t.Errorf("All tells %v, Back, turned about, %v", all, back)
		}
	}
}

// TestCountIsSize (P10.3): what is counted is what a tree tells, also where one node stands many times.
func TestCountIsSize(t *testing.T) {
	for _, x := range append(trees(), twins(16), lean(20, true), lean(21, false), full(12, 1)) {
		if n := look.Count(x); n != x.Size() {
			t.Errorf("%d are counted, %d told", n, x.Size())
		}
		if p, k := len(look.Pairs(x)), len(look.Keys(x)); p != x.Size() || k != x.Size() {
			t.Errorf("%d pairs, %d keys of %d nodes", p, k, x.Size())
		}
	}
}

// TestHeightIsBound (P10.3): no tree is higher than its nodes are many, and none has 2^height of them; chains are as high, full ones have one less.
func TestHeightIsBound(t *testing.T) {
	for _, x := range trees() {
		high := look.Height(x)
		if high > x.Size() || x.Size() >= 1<<high {
			t.Errorf("%d nodes, %d high", x.Size(), high)
		}
	}
	for high := range 13 {
		for _, x := range []*node.Node{chain(high, true), chain(high, false), zigzag(high, false)} {
			if look.Height(x) != high || x.Size() != high {
				t.Errorf("a chain of %d is %d high", high, look.Height(x))
			}
		}
		for _, x := range []*node.Node{full(high, 1), twins(high)} {
			if look.Height(x) != high || look.Count(x) != 1<<high-1 {
				t.Errorf("a full tree of %d nodes is %d high, not %d", look.Count(x), look.Height(x), high)
			}
		}
	}
}

// chance is a row of numbers that is the same in each run.
type chance uint64

// below is a number from 0 to most - 1.
func (c *chance) below(most int) int {
	*c = *c*6364136223846793005 + 1442695040888963407
	return int(uint64(*c) >> 33 % uint64(most))
}

// TestDrawnTrees (P10.1, P10.2, P10.3): trees that were made of any that there were, small enough to be gone over.
func TestDrawnTrees(t *testing.T) {
	c := chance(10)
	for range 60 {
		grove := []*node.Node{nil}
		for range 40 {
			l, r := grove[c.below(len(grove))], grove[c.below(len(grove))]
			if l.Size()+r.Size() > 2000 {
				continue
			}
			x := node.New(l, numberAt(c.below(13)), numberAt(c.below(13)), uint64(c.below(9)), r)
			grove = append(grove, x)
			seePairs(t, x, pairsOf(x))
			seeBack(t, x, backOf(x))
			seeHeight(t, x, heightOf(x))
			if n := look.Count(x); n != x.Size() {
				t.Errorf("%d are counted, %d told", n, x.Size())
			}
			key := numberAt(c.below(13))
			seeDeep(t, x, key, deepOf(x, key))
		}
	}
}

// seen is what a node tells.
type seen struct {
	left, right   *node.Node
	key, val, sum int64
	tag           uint64
	size          int
}

// note writes down what all nodes of a tree tell.
func note(x *node.Node, at map[*node.Node]seen) {
	if _, is := at[x]; is || x == nil {
		return
	}
	at[x] = seen{x.Left(), x.Right(), x.Key(), x.Val(), x.Sum(), x.Tag(), x.Size()}
	note(x.Left(), at)
	note(x.Right(), at)
}

// TestTreesStay (R5): no call changes a tree, whether it is gone over wholly or in part.
func TestTreesStay(t *testing.T) {
	for _, x := range trees() {
		then, now := map[*node.Node]seen{}, map[*node.Node]seen{}
		note(x, then)
		for range look.All(x) {
			look.Height(x)
			look.Count(x)
			break
		}
		for range look.Back(x) {
			break
		}
		told(look.All(x))
		told(look.Back(x))
		look.Pairs(x)
		look.Keys(x)
		for _, key := range numbers() {
			look.Deep(x, key)
			look.Has(x, key)
		}
		note(x, now)
		for n, was := range then {
			if now[n] != was {
				t.Errorf("%+v became %+v", was, now[n])
			}
		}
	}
}

// TestListsAreNew (R5): what was answered is written over, and behind its end: the next answers, and those that there were, stay.
func TestListsAreNew(t *testing.T) {
	for _, x := range trees() {
		want := pairsOf(x)
		pairs, keys := look.Pairs(x), look.Keys(x)
		p, k := look.Pairs(x), look.Keys(x)
		p, k = p[:cap(p)], k[:cap(k)]
		for n := range p {
			p[n] = api.Pair{Key: 99, Val: 98}
		}
		for n := range k {
			k[n] = 97
		}
		if !slices.Equal(pairs, want) || !slices.Equal(keys, keysOf(want)) {
			t.Errorf("%v became %v, %v", want, pairs, keys)
		}
		seePairs(t, x, want)
	}
}
