package wb_test

import (
	"math"
	"testing"

	"joinery/api"
	"joinery/wb"
)

// most is the greatest weight that is like another one.
const most = 1 << 40

// seeLike fails the test, unless two numbers are alike just so, either way.
func seeLike(t *testing.T, a, b int, want bool) {
	t.Helper()
	if got := wb.Like(a, b); got != want {
		t.Errorf("Like(%d, %d) is %t", a, b, got)
	}
	if got := wb.Like(b, a); got != want {
		t.Errorf("Like(%d, %d) is %t", b, a, got)
	}
}

// TestLike (P18.1, P18.4): pairs that are written out: just alike, just not, equal ones, the greatest ones.
func TestLike(t *testing.T) {
	if api.MaxWeight != most {
		t.Fatalf("MaxWeight is %d", api.MaxWeight)
	}
	for _, c := range []struct {
		a, b int
		want bool
	}{
		{1, 1, true}, {1, 2, true}, {1, 3, false}, {1, 4, false}, {2, 2, true}, {2, 3, true}, {2, 4, true}, {2, 5, false}, {3, 7, true}, {3, 8, false}, {4, 9, true}, {4, 10, false},
		{5, 12, true}, {5, 13, false}, {12, 29, true}, {12, 30, false}, {28, 68, true}, {28, 69, false}, {29, 70, true}, {29, 71, true}, {29, 72, false}, {28, 71, false}, {30, 73, true}, {30, 74, false},
		{58, 142, true}, {58, 143, false}, {57, 142, false}, {2900, 7100, true}, {2900, 7101, false}, {2899, 7100, false},
		{most, most, true}, {most - 1, most, true}, {most / 2, most, true}, {most / 3, most, false}, {most / 29 * 12, most, true}, {1, most, false},
		{449096298670, most, true}, {449096298669, most, false},
	} {
		seeLike(t, c.a, c.b, c.want)
	}
}

// TestLikeEqual (P18.4): each weight is like itself, from 1 on; no number that is none is so.
func TestLikeEqual(t *testing.T) {
	for a := 1; a < 5000; a++ {
		seeLike(t, a, a, true)
		seeLike(t, most+1-a, most+1-a, true)
		seeLike(t, 1-a, 1-a, false)
		seeLike(t, most+a, most+a, false)
	}
	for power := range 41 {
		seeLike(t, 1<<power, 1<<power, true)
	}
}

// noWeights are numbers that are like none.
func noWeights() []int {
	return []int{0, -1, -2, -3, -29, -71, -most, -most - 1, math.MinInt64, math.MinInt64 + 1, math.MinInt64 / 29, math.MinInt64 / 100, most + 1, most + 2, 2 * most, 1 << 62, math.MaxInt64 / 58, math.MaxInt64/58 + 1, math.MaxInt64 / 29, math.MaxInt64/29 + 1, math.MaxInt64 / 100, math.MaxInt64/100 + 1, math.MaxInt64 - 1, math.MaxInt64}
}

// TestLikeNone (P18.1): 0, numbers below it, and those beyond the greatest weight, are like no number, not like each other either.
func TestLikeNone(t *testing.T) {
	for _, a := range noWeights() {
		for _, b := range noWeights() {
			seeLike(t, a, b, false)
		}
		for _, b := range []int{1, 2, 3, 29, 71, 1000, most / 2, most - 1, most} {
			seeLike(t, a, b, false)
		}
	}
}

// TestLikeSmall (P18.1, P18.4): all pairs of small numbers, some below 1 among them; and all of such as are next to the greatest weight.
func TestLikeSmall(t *testing.T) {
	for a := -5; a < 400; a++ {
		for b := a; b < 400; b++ {
			seeLike(t, a, b, likeByWords(a, b))
		}
	}
	for a := most - 20; a < most+20; a++ {
		for b := a; b < most+20; b++ {
			seeLike(t, a, b, likeByWords(a, b))
		}
	}
}

// TestLikeEdge (P18.1, P18.4): of a weight the least and the greatest one that are like it, and those next to them, of all sizes.
func TestLikeEdge(t *testing.T) {
	c := chance(2)
	weights := []int{most, most - 1, most - 2, most / 71 * 29, most/71*29 + 1, most / 2, most/2 + 1}
	for range 2000 {
		weights = append(weights, 1+c.below(1<<(1+c.below(31))), most-c.below(1<<31), most/71*29+c.below(1<<30))
	}
	for _, a := range weights {
		for by := -2; by <= 2; by++ {
			for _, b := range []int{a*71/29 + by, a*29/71 + by} {
				seeLike(t, a, b, likeByWords(a, b))
			}
		}
	}
	for times := 1; 71*times+1 <= most; times = times*3 + 1 {
		seeLike(t, 29*times, 71*times, true)
		seeLike(t, 29*times, 71*times+1, false)
		seeLike(t, 29*times-1, 71*times, false)
	}
}
