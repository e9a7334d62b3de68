package rowset_test

import (
	"slices"
	"testing"

	"joinery/api"
	"joinery/row"
	"joinery/rowset"
)

// must fails the test, if there is an error, or the row that is answered may not be.
func must(t *testing.T, o uint8, got answer) []api.Pair {
	t.Helper()
	if got.err != api.OK || !row.May(o, got.pairs...) {
		t.Fatalf("order %d: %v, %v", o, got.pairs, got.err)
	}
	return got.pairs
}

// parts are what the calls make of two rows: the keys of either, of both, of the first one alone, of the second one alone, and of just one.
type parts struct {
	either, both, alone, other, apart []api.Pair
}

// partsOf fails the test, if there is an error, or one of the rows that are answered may not be.
func partsOf(t *testing.T, o, p uint8, a, b []api.Pair) parts {
	t.Helper()
	return parts{
		either: must(t, o, answered(rowset.Union(o, p, a, b))),
		both:   must(t, o, answered(rowset.Meet(o, p, a, b))),
		alone:  must(t, o, answered(rowset.Less(o, a, b))),
		other:  must(t, o, answered(rowset.Less(o, b, a))),
		apart:  must(t, o, answered(rowset.Apart(o, a, b))),
	}
}

// TestTwoTogether (P5.3): both together have as many keys as each alone, less those of both; what is apart is what is in either, and not in both, whichever row is the first one.
func TestTwoTogether(t *testing.T) {
	for _, o := range upTo(api.Orders) {
		for _, p := range upTo(api.Policies) {
			for _, two := range twoRows(t, o) {
				a, b := two[0], two[1]
				x := partsOf(t, o, p, a, b)
				both := len(x.both)
				if len(x.either) != len(a)+len(b)-both || len(x.alone) != len(a)-both || len(x.other) != len(b)-both || len(x.apart) != len(x.either)-both {
					t.Errorf("order %d, policy %d: of %v and %v came %v", o, p, a, b, x)
				}
				see(t, "either less both", answered(rowset.Less(o, x.either, x.both)), x.apart)
				see(t, "each alone, together", answered(rowset.Union(o, p, x.alone, x.other)), x.apart)
				see(t, "the second row first", answered(rowset.Apart(o, b, a)), x.apart)
				see(t, "with both again", answered(rowset.Union(o, p, x.apart, x.both)), x.either)
			}
		}
	}
}

// TestARowAndItself (P5.3): together it has its keys, apart from itself it has none; with no row it is as it was.
func TestARowAndItself(t *testing.T) {
	for _, o := range upTo(api.Orders) {
		for _, two := range twoRows(t, o) {
			a := two[0]
			for _, p := range []uint8{api.PoLeft, api.PoRight} {
				see(t, "a row and itself, in either", answered(rowset.Union(o, p, a, a)), a)
				see(t, "a row and itself, in both", answered(rowset.Meet(o, p, a, a)), a)
			}
			see(t, "a row less itself", answered(rowset.Less(o, a, a)), nil)
			see(t, "a row apart from itself", answered(rowset.Apart(o, a, a)), nil)
			see(t, "a row less none", answered(rowset.Less(o, a, nil)), a)
			see(t, "none less a row", answered(rowset.Less(o, nil, a)), nil)
		}
	}
}

// TestThreeRows (P5.3): in either, and in both, of three rows is the same, whichever two come together first.
func TestThreeRows(t *testing.T) {
	for _, o := range upTo(api.Orders) {
		c := chance(o) + 1000
		for range 40 {
			x, y, z := sorted(t, o, 1, c.keysOf(edges())...), sorted(t, o, 2, c.keysOf(edges())...), sorted(t, o, 3, c.keysOf(edges())...)
			for _, p := range upTo(api.Policies) {
				for _, k := range calls()[:2] {
					first := must(t, o, k.do(o, p, must(t, o, k.do(o, p, x, y)), z))
					see(t, k.name+" of three", k.do(o, p, x, must(t, o, k.do(o, p, y, z))), first)
				}
			}
		}
	}
}

// TestWhicheverIsFirst (P5.3): by PoSum it is the same; by the other two policies the one is what the other one is, the rows changed.
func TestWhicheverIsFirst(t *testing.T) {
	for _, o := range upTo(api.Orders) {
		for _, two := range twoRows(t, o) {
			a, b := two[0], two[1]
			for _, k := range calls()[:2] {
				see(t, k.name+" by PoSum", k.do(o, api.PoSum, b, a), must(t, o, k.do(o, api.PoSum, a, b)))
				see(t, k.name+" by PoRight", k.do(o, api.PoRight, b, a), must(t, o, k.do(o, api.PoLeft, a, b)))
			}
		}
	}
}

// TestSortIsUnion (P5.3): pairs that are sorted in two parts, and come together, are as pairs that are sorted at once.
func TestSortIsUnion(t *testing.T) {
	for _, o := range upTo(api.Orders) {
		c := chance(o) + 2000
		var l []api.Pair
		for k := range int64(60) {
			l = append(l, api.Pair{Key: edges()[c.below(len(edges()))], Val: k + 1})
		}
		for _, p := range upTo(api.Policies) {
			whole := must(t, o, answered(rowset.Sort(o, p, l...)))
			for k := range len(l) + 1 {
				first, second := must(t, o, answered(rowset.Sort(o, p, l[:k]...))), must(t, o, answered(rowset.Sort(o, p, l[k:]...)))
				see(t, "two parts", answered(rowset.Union(o, p, first, second)), whole)
			}
		}
	}
}

// TestCutAndPutTogether (P5.3): a row that is cut, and put together again, is the row; and so are its ranges.
func TestCutAndPutTogether(t *testing.T) {
	for _, o := range upTo(api.Orders) {
		for _, l := range askedRows(t, o) {
			for _, key := range asked(t, o, l) {
				ahead, val, is, behind := rowset.Cut(o, l, key)
				var middle []api.Pair
				if is {
					middle = []api.Pair{{Key: key, Val: val}}
				}
				if !slices.Equal(slices.Concat(ahead, middle, behind), l) {
					t.Errorf("order %d: %v, cut at %d: %v, %v, %v", o, l, key, ahead, middle, behind)
				}
				rest := must(t, o, answered(rowset.Union(o, api.PoSum, behind, ahead)))
				see(t, "Union of what was cut", answered(rowset.Union(o, api.PoSum, rest, middle)), l)
				see(t, "Range of one key", answered(rowset.Range(o, l, key, key)), middle)
			}
		}
	}
}
