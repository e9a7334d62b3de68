package fold_test

import (
	"math"
	"math/big"
	"slices"
	"testing"

	"joinery/api"
	"joinery/fold"
)

// strangers are numbers of policies that there are not.
func strangers() []uint8 {
	l := []uint8{0}
	for p := api.Policies + 1; p <= math.MaxUint8; p++ {
		l = append(l, uint8(p))
	}
	return l
}

// all are the policies that there are.
func all() []uint8 { return []uint8{api.PoLeft, api.PoRight, api.PoSum} }

// edges are the least and the greatest values, those around 0, and those around each half of the range.
func edges() []int64 {
	return []int64{
		math.MinInt64, math.MinInt64 + 1, -1<<62 - 1, -1 << 62, -1<<62 + 1, -1 << 32, -3, -2, -1,
		0, 1, 2, 5, 1 << 32, 1<<62 - 1, 1 << 62, 1<<62 + 1, math.MaxInt64 - 1, math.MaxInt64,
	}
}

// many are values from all over the range, the edges among them; no two of them are the same.
func many() []int64 {
	l := edges()
	x := uint64(1)
	for range 200 {
		x = x*6364136223846793005 + 1442695040888963407
		l = append(l, int64(x))
	}
	return l
}

// round is the sum by great numbers, which do not go round by themselves, brought into the range.
func round(l ...int64) int64 {
	whole := new(big.Int).Lsh(big.NewInt(1), 64)
	sum := new(big.Int)
	for _, x := range l {
		sum.Add(sum, big.NewInt(x))
	}
	sum.Mod(sum, whole)
	if sum.Cmp(big.NewInt(math.MaxInt64)) > 0 {
		sum.Sub(sum, whole)
	}
	return sum.Int64()
}

// told is what the chapter's words say comes of one value or more.
func told(p uint8, l ...int64) int64 {
	switch p {
	case api.PoLeft:
		return l[0]
	case api.PoRight:
		return l[len(l)-1]
	}
	return round(l...)
}

// mustRun fails the test, if there is an error.
func mustRun(t *testing.T, p uint8, l ...int64) int64 {
	t.Helper()
	got, e := fold.Run(p, l...)
	if e != api.OK {
		t.Fatalf("Run(%d, %d): %v", p, l, e)
	}
	return got
}

// mustCombine fails the test, if there is an error.
func mustCombine(t *testing.T, p uint8, a, b int64) int64 {
	t.Helper()
	got, e := fold.Combine(p, a, b)
	if e != api.OK {
		t.Fatalf("Combine(%d, %d, %d): %v", p, a, b, e)
	}
	return got
}

// TestExamples (P3.1, P3.2): the chapter's.
func TestExamples(t *testing.T) {
	if got, e := fold.Combine(api.PoLeft, 1, 2); got != 1 || e != api.OK {
		t.Errorf("Combine(PoLeft, 1, 2) = %d, %v", got, e)
	}
	if got, e := fold.Run(api.PoSum, 1, 2, 3); got != 6 || e != api.OK {
		t.Errorf("Run(PoSum, 1, 2, 3) = %d, %v", got, e)
	}
	if got, e := fold.Run(api.PoRight, 1, 2, 3); got != 3 || e != api.OK {
		t.Errorf("Run(PoRight, 1, 2, 3) = %d, %v", got, e)
	}
	if got, e := fold.Run(api.PoSum); got != 0 || e != api.ErrNone {
		t.Errorf("Run(PoSum) = %d, %v", got, e)
	}
	if got := fold.Sums(1, 2, 3); !slices.Equal(got, []int64{1, 3, 6}) {
		t.Errorf("Sums(1, 2, 3) = %d", got)
	}
	if got := fold.Sum(math.MaxInt64, 1); got != math.MinInt64 {
		t.Errorf("Sum(2^63 - 1, 1) = %d", got)
	}
}

// TestMay (P3.1): each of the 256 numbers.
func TestMay(t *testing.T) {
	if len(all()) != api.Policies {
		t.Fatalf("%d policies are tested, there are %d", len(all()), api.Policies)
	}
	for _, p := range all() {
		if !fold.May(p) {
			t.Errorf("May(%d) = false", p)
		}
	}
	for _, p := range strangers() {
		if fold.May(p) {
			t.Errorf("May(%d) = true", p)
		}
	}
}

// TestCombine (P3.1): any two of the edges, either way round.
func TestCombine(t *testing.T) {
	for _, p := range all() {
		for _, a := range edges() {
			for _, b := range edges() {
				want := told(p, a, b)
				if got, e := fold.Combine(p, a, b); got != want || e != api.OK {
					t.Errorf("Combine(%d, %d, %d) = %d, %v, want %d", p, a, b, got, e, want)
				}
			}
		}
	}
}

// TestSumsThatGoRound (P3.1, P3.2): out of the range above, and below.
func TestSumsThatGoRound(t *testing.T) {
	for _, c := range []struct{ a, b, want int64 }{
		{math.MaxInt64, 1, math.MinInt64},
		{math.MinInt64, -1, math.MaxInt64},
		{math.MaxInt64, math.MaxInt64, -2},
		{math.MinInt64, math.MinInt64, 0},
		{math.MinInt64, math.MaxInt64, -1},
		{1 << 62, 1 << 62, math.MinInt64},
		{-1 << 62, -1<<62 - 1, math.MaxInt64},
	} {
		if got := mustCombine(t, api.PoSum, c.a, c.b); got != c.want {
			t.Errorf("Combine(PoSum, %d, %d) = %d, want %d", c.a, c.b, got, c.want)
		}
		if got := mustRun(t, api.PoSum, c.a, c.b); got != c.want {
			t.Errorf("Run(PoSum, %d, %d) = %d, want %d", c.a, c.b, got, c.want)
		}
		if got := fold.Sum(c.a, c.b); got != c.want {
			t.Errorf("Sum(%d, %d) = %d, want %d", c.a, c.b, got, c.want)
		}
		if got := fold.Sums(c.a, c.b); !slices.Equal(got, []int64{c.a, c.want}) {
			t.Errorf("Sums(%d, %d) = %d, want %d, %d", c.a, c.b, got, c.a, c.want)
		}
	}
}

// TestRun (P3.1): from one value on, as the chapter's words tell it, and as Combine brings them together one by one.
func TestRun(t *testing.T) {
	l := many()
	for _, p := range all() {
		step := l[0]
		for n := 1; n <= len(l); n++ {
			if n > 1 {
				step = mustCombine(t, p, step, l[n-1])
			}
			got := mustRun(t, p, l[:n]...)
			if want := told(p, l[:n]...); got != want || got != step {
				t.Errorf("Run(%d) of %d values = %d, want %d, by Combine %d", p, n, got, want, step)
			}
		}
	}
}

// TestOneValue (P3.1, P3.2): stays as it is, by each policy.
func TestOneValue(t *testing.T) {
	for _, x := range edges() {
		for _, p := range all() {
			if got := mustRun(t, p, x); got != x {
				t.Errorf("Run(%d, %d) = %d", p, x, got)
			}
		}
		if got := fold.Sum(x); got != x {
			t.Errorf("Sum(%d) = %d", x, got)
		}
		if got := fold.Sums(x); !slices.Equal(got, []int64{x}) {
			t.Errorf("Sums(%d) = %d", x, got)
		}
	}
}

// TestNoValues (P3.1, P3.2): a list that is nil, and one without elements, are the same.
func TestNoValues(t *testing.T) {
	for _, l := range [][]int64{nil, {}, many()[:0]} {
		for _, p := range all() {
			if got, e := fold.Run(p, l...); got != 0 || e != api.ErrNone {
				t.Errorf("Run(%d) of none = %d, %v", p, got, e)
			}
		}
		if got := fold.Sum(l...); got != 0 {
			t.Errorf("Sum of none = %d", got)
		}
		if got := fold.Sums(l...); len(got) != 0 {
			t.Errorf("Sums of none = %d", got)
		}
	}
}

// TestNoPolicy (P3.1): ErrArg also where there are no values, as it is named first; beside the error is 0.
func TestNoPolicy(t *testing.T) {
	for _, p := range strangers() {
		for _, l := range [][]int64{nil, {}, {7}, {7, 8}, many()} {
			if got, e := fold.Run(p, l...); got != 0 || e != api.ErrArg {
				t.Errorf("Run(%d) of %d values = %d, %v", p, len(l), got, e)
			}
		}
		for _, a := range edges() {
			if got, e := fold.Combine(p, a, 7); got != 0 || e != api.ErrArg {
				t.Errorf("Combine(%d, %d, 7) = %d, %v", p, a, got, e)
			}
			if got, e := fold.Combine(p, 7, a); got != 0 || e != api.ErrArg {
				t.Errorf("Combine(%d, 7, %d) = %d, %v", p, a, got, e)
			}
		}
	}
}

// TestSums (P3.2): of each value the sum of all up to it; the last one is the sum of all.
func TestSums(t *testing.T) {
	l := many()
	for n := range len(l) + 1 {
		want := make([]int64, n)
		for k := range n {
			want[k] = round(l[:k+1]...)
		}
		if got := fold.Sums(l[:n]...); !slices.Equal(got, want) {
			t.Fatalf("Sums of %d values = %d, want %d", n, got, want)
		}
		if got, sum := fold.Sum(l[:n]...), round(l[:n]...); got != sum {
			t.Errorf("Sum of %d values = %d, want %d", n, got, sum)
		}
	}
}

// TestListsStay (P3.1, P3.2): a list that is handed in is not changed, nor what lies behind its end.
func TestListsStay(t *testing.T) {
	whole := many()
	was := slices.Clone(whole)
	l := whole[:len(whole)/2]
	for _, p := range append(all(), strangers()...) {
		fold.Run(p, l...)
	}
	fold.Sum(l...)
	sums := fold.Sums(l...)
	for k := range sums {
		sums[k] = 99
	}
	_ = append(sums, 99)
	if !slices.Equal(whole, was) {
		t.Error("a list that was handed in was changed")
	}
}

// TestNothingIsKept (P3.1, P3.2): an answer stays when the list is changed behind it, and a call says nothing of those before it.
func TestNothingIsKept(t *testing.T) {
	l := []int64{1, 2, 3}
	old, sum := fold.Sums(l...), fold.Sum(l...)
	for k := range l {
		l[k] = 10
	}
	later := fold.Sums(l...)
	if !slices.Equal(old, []int64{1, 3, 6}) || sum != 6 {
		t.Errorf("Sums, Sum of 1, 2, 3 became %d, %d", old, sum)
	}
	if !slices.Equal(later, []int64{10, 20, 30}) || fold.Sum(l...) != 30 || mustRun(t, api.PoSum, l...) != 30 {
		t.Errorf("Sums, Sum, Run of 10, 10, 10 = %d, %d, %d", later, fold.Sum(l...), mustRun(t, api.PoSum, l...))
	}
	later[0] = 99
	if again := fold.Sums(l...); !slices.Equal(again, []int64{10, 20, 30}) || old[0] != 1 {
		t.Errorf("two answers share memory: %d, %d", old, again)
	}
}

// TestThree (P3.3): whichever two come together first.
func TestThree(t *testing.T) {
	for _, p := range all() {
		for _, a := range edges() {
			for _, b := range edges() {
				for _, c := range edges() {
					front := mustCombine(t, p, mustCombine(t, p, a, b), c)
					back := mustCombine(t, p, a, mustCombine(t, p, b, c))
					if run := mustRun(t, p, a, b, c); front != back || front != run {
						t.Fatalf("policy %d: of %d, %d, %d come %d, %d, %d", p, a, b, c, front, back, run)
					}
				}
			}
		}
	}
}

// TestParts (P3.3): many, parted at any two places.
func TestParts(t *testing.T) {
	l := many()[:40]
	for _, p := range all() {
		want := mustRun(t, p, l...)
		for i := 1; i < len(l)-1; i++ {
			for j := i + 1; j < len(l); j++ {
				parts := []int64{mustRun(t, p, l[:i]...), mustRun(t, p, l[i:j]...), mustRun(t, p, l[j:]...)}
				if got := mustRun(t, p, parts...); got != want {
					t.Errorf("policy %d, parted at %d and %d: %d, want %d", p, i, j, got, want)
				}
			}
		}
	}
}

// TestSumInAnyOrder (P3.3): by PoSum values may come the other way round, turned, or sorted.
func TestSumInAnyOrder(t *testing.T) {
	l := many()
	want := mustRun(t, api.PoSum, l...)
	for k := range l {
		turned := append(slices.Clone(l[k:]), l[:k]...)
		if got := mustRun(t, api.PoSum, turned...); got != want {
			t.Errorf("turned by %d: %d, want %d", k, got, want)
		}
	}
	slices.Reverse(l)
	if got := mustRun(t, api.PoSum, l...); got != want || fold.Sum(l...) != want {
		t.Errorf("the other way round: %d, want %d", got, want)
	}
	slices.Sort(l)
	if got := mustRun(t, api.PoSum, l...); got != want || fold.Sum(l...) != want {
		t.Errorf("sorted: %d, want %d", got, want)
	}
}

// TestWhoSaysNothing (P3.3): of two or more, by PoLeft the last one, by PoRight the first one.
func TestWhoSaysNothing(t *testing.T) {
	l := many()
	for n := 2; n <= len(l); n++ {
		left, right := mustRun(t, api.PoLeft, l[:n]...), mustRun(t, api.PoRight, l[:n]...)
		if got := mustRun(t, api.PoLeft, l[:n-1]...); got != left {
			t.Errorf("PoLeft of %d values: %d without the last one, %d with it", n, got, left)
		}
		if got := mustRun(t, api.PoRight, l[1:n]...); got != right {
			t.Errorf("PoRight of %d values: %d without the first one, %d with it", n, got, right)
		}
		for _, x := range edges() {
			if got := mustRun(t, api.PoLeft, append(slices.Clone(l[:n-1]), x)...); got != left {
				t.Errorf("PoLeft of %d values: the last one, %d, makes it %d, not %d", n, x, got, left)
			}
			if got := mustRun(t, api.PoRight, append([]int64{x}, l[1:n]...)...); got != right {
				t.Errorf("PoRight of %d values: the first one, %d, makes it %d, not %d", n, x, got, right)
			}
		}
	}
}
