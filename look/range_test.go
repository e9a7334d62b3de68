package look_test

import (
	"iter"
	"math"
	"runtime/debug"
	"slices"
	"sync"
	"testing"

	"joinery/api"
	"joinery/look"
	"joinery/node"
)

// goings are both ways that a tree is gone over, each with what it ought to tell.
func goings(x *node.Node) map[string]struct {
	seq  iter.Seq2[int64, int64]
	want []api.Pair
} {
	return map[string]struct {
		seq  iter.Seq2[int64, int64]
		want []api.Pair
	}{
		"All":  {look.All(x), pairsOf(x)},
		"Back": {look.Back(x), backOf(x)},
	}
}

// TestAgain (P10.1): gone over again and again, it comes to the same.
func TestAgain(t *testing.T) {
	for _, x := range trees() {
		for name, g := range goings(x) {
			for round := range 3 {
				if got := told(g.seq); !slices.Equal(got, g.want) {
					t.Errorf("%s, round %d: %v, not %v", name, round, got, g.want)
				}
			}
		}
	}
}

// until asks for so many pairs, and then for no more; whoever is told more than that, sees it.
func until(s iter.Seq2[int64, int64], most int) []api.Pair {
	var l []api.Pair
	s(func(key, val int64) bool {
		l = append(l, api.Pair{Key: key, Val: val})
		return len(l) < most
	})
	return l
}

// TestStop (P10.1): whoever stops at any pair, the first one, the last one, one in the midst, is told no more; and may begin again.
func TestStop(t *testing.T) {
	for _, x := range trees() {
		for name, g := range goings(x) {
			step := 1 + len(g.want)/40
			for most := 1; most <= len(g.want); most += step {
				if got := until(g.seq, most); !slices.Equal(got, g.want[:most]) {
					t.Errorf("%s, stopped at %d: %v, not %v", name, most, got, g.want[:most])
				}
			}
			if got := until(g.seq, len(g.want)); !slices.Equal(got, g.want) {
				t.Errorf("%s, stopped at the last one: %v, not %v", name, got, g.want)
			}
			if got := told(g.seq); !slices.Equal(got, g.want) {
				t.Errorf("%s, begun again: %v, not %v", name, got, g.want)
			}
		}
	}
}

// TestLeftByPanic (P10.1): whoever leaves by a panic, may begin again.
func TestLeftByPanic(t *testing.T) {
	x := zigzag(9, true)
	for name, g := range goings(x) {
		for place := range g.want {
			thrown := func() (thrown any) {
				defer func() { thrown = recover() }()
				n := 0
				for range g.seq {
					if n == place {
						panic("enough")
					}
					n++
				}
				return nil
			}()
			if thrown != "enough" {
				t.Errorf("%s, thrown at %d: %v", name, place, thrown)
			}
			if got := told(g.seq); !slices.Equal(got, g.want) {
				t.Errorf("%s, begun again: %v, not %v", name, got, g.want)
			}
		}
	}
}

// TestWithin (P10.1): a tree is gone over while it is gone over, by the other way, by the same, and by the very same sequence.
func TestWithin(t *testing.T) {
	for _, x := range []*node.Node{leaf(1, 2), full(4, 1), chain(9, true), chain(9, false), zigzag(6, true), twins(4), lean(5, true), lean(5, false)} {
		for name, outer := range goings(x) {
			for other, inner := range goings(x) {
				var got []api.Pair
				for key, val := range outer.seq {
					got = append(got, api.Pair{Key: key, Val: val})
					if within := told(inner.seq); !slices.Equal(within, inner.want) {
						t.Errorf("%s in %s: %v, not %v", other, name, within, inner.want)
					}
					if within := told(outer.seq); !slices.Equal(within, outer.want) {
						t.Errorf("%s in itself: %v, not %v", name, within, outer.want)
					}
					until(inner.seq, 2)
				}
				if !slices.Equal(got, outer.want) {
					t.Errorf("%s around %s: %v, not %v", name, other, got, outer.want)
				}
			}
		}
	}
}

// TestByTurns (P10.1): All and Back, each asked for one pair by turns, and one sequence asked twice.
func TestByTurns(t *testing.T) {
	for _, x := range []*node.Node{nil, leaf(1, 2), full(5, 1), chain(20, true), chain(20, false), zigzag(15, true), twins(5)} {
		all, back := look.All(x), look.Back(x)
		seqs := []iter.Seq2[int64, int64]{all, back, all, back, look.All(x)}
		got := make([][]api.Pair, len(seqs))
		var next []func() (int64, int64, bool)
		for _, s := range seqs {
			n, stop := iter.Pull2(s)
			defer stop()
			next = append(next, n)
		}
		for range x.Size() + 1 {
			for k := range seqs {
				if key, val, is := next[k](); is {
					got[k] = append(got[k], api.Pair{Key: key, Val: val})
				}
			}
		}
		for k := range seqs {
			want := pairsOf(x)
			if k == 1 || k == 3 {
				want = backOf(x)
			}
			if !slices.Equal(got[k], want) {
				t.Errorf("sequence %d: %v, not %v", k, got[k], want)
			}
		}
	}
}

// TestAtOnce (P10.1, P10.2): one sequence may be gone over by many at the same time.
func TestAtOnce(t *testing.T) {
	x := zigzag(40, true)
	g := goings(x)
	var all sync.WaitGroup
	for range 8 {
		all.Go(func() {
			for name, way := range g {
				if got := told(way.seq); !slices.Equal(got, way.want) {
					t.Errorf("%s: %v, not %v", name, got, way.want)
				}
			}
		})
	}
	all.Wait()
}

// seeChain fails the test, unless a deep tree whose values are 0 to deep - 1, from the bottom on, is told as it is.
func seeChain(t *testing.T, x *node.Node, deep int) {
	t.Helper()
	seeHeight(t, x, deep)
	if n := look.Count(x); n != deep {
		t.Errorf("%d nodes, not %d", n, deep)
	}
	for _, s := range []iter.Seq2[int64, int64]{look.All(x), look.Back(x)} {
		been, n := make([]bool, deep), 0
		for _, val := range s {
			if been[val] {
				t.Fatalf("%d comes again", val)
			}
			been[val] = true
			n++
		}
		if n != deep {
			t.Errorf("%d pairs, not %d", n, deep)
		}
	}
	for _, key := range strangers() {
		seeDeep(t, x, key, 0)
	}
}

// TestDeepTrees (R1, P10.1, P10.2): a tree may be as deep as it has nodes: going over it needs no memory of calls for each of them.
func TestDeepTrees(t *testing.T) {
	const deep = 200_000
	trees := map[string]*node.Node{
		"left": chain(deep, true), "right": chain(deep, false), "zigzag": zigzag(deep, false),
	}
	// A call for each node that lies above another would need some dozen bytes each.
	defer debug.SetMaxStack(debug.SetMaxStack(1 << 18))
	for name, x := range trees {
		t.Run(name, func(t *testing.T) { seeChain(t, x, deep) })
	}
	first, last := trees["left"], trees["right"]
	if p := look.Pairs(first); p[0] != (api.Pair{Key: numberAt(0)}) || p[deep-1].Val != deep-1 {
		t.Errorf("from %v to %v", p[0], p[deep-1])
	}
	if k := look.Keys(last); k[0] != numberAt(deep-1) || k[deep-1] != numberAt(0) {
		t.Errorf("from %d to %d", k[0], k[deep-1])
	}
	seeDeep(t, first, numberAt(0), deep)
	seeDeep(t, last, numberAt(deep-1), 1)
	seeDeep(t, node.New(nil, 3, 3, 0, node.New(first, 4, 4, 0, nil)), numberAt(0), deep+2)
}

// TestDeepWithLeaves (R1, P10.1, P10.2): a deep tree with something on each node's other side.
func TestDeepWithLeaves(t *testing.T) {
	const deep = 100_000
	x := zigzag(deep, true)
	defer debug.SetMaxStack(debug.SetMaxStack(1 << 18))
	seeHeight(t, x, deep+1)
	if n := look.Count(x); n != 2*deep {
		t.Errorf("%d nodes, not %d", n, 2*deep)
	}
	back := told(look.Back(x))
	slices.Reverse(back)
	if !slices.Equal(told(look.All(x)), back) {
		t.Error("Back is not All, turned about")
	}
}

// TestEndlessTrees (P10.1, P10.2): trees that nobody could go over wholly, as far as is asked, and to keys that stand at their beginning.
func TestEndlessTrees(t *testing.T) {
	for _, high := range []int{40, 62, 63, 64, 65, 200} {
		x := node.New(twins(high), 5, 5, 0, node.New(leaf(math.MaxInt64-7, 1), 6, 6, 0, nil))
		low := twins(7)
		if got, want := until(look.All(x), 100), pairsOf(low)[:100]; !slices.Equal(got, want) {
			t.Errorf("%d high, from left: %v, not %v", high, got, want)
		}
		want := append([]api.Pair{{Key: 6, Val: 6}, {Key: math.MaxInt64 - 7, Val: 1}, {Key: 5, Val: 5}}, backOf(low)...)
		if got := until(look.Back(x), 100); !slices.Equal(got, want[:100]) {
			t.Errorf("%d high, from right: %v, not %v", high, got, want[:100])
		}
		for place := range 7 {
			seeDeep(t, x, numberAt(place), high+1-place)
		}
	}
}
