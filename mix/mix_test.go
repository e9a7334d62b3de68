package mix_test

import (
	"math"
	"testing"

	"joinery/mix"
)

// golden is written out here again, so that the tests do not lean on the package's own constant.
const golden = 0x9e3779b97f4a7c15

// spread hands out the edges, each single bit with what lies beside it, and numbers from all over the range.
func spread() []uint64 {
	l := []uint64{0, 1, 2, 3, 1<<63 - 1, 1 << 63, 1<<63 + 1, math.MaxUint64 - 1, math.MaxUint64, golden}
	for n := range 64 {
		bit := uint64(1) << n
		l = append(l, bit-1, bit, bit+1, ^bit)
	}
	x := uint64(1)
	for range 2000 {
		x = x*6364136223846793005 + 1442695040888963407
		l = append(l, x)
	}
	return l
}

// mixed follows the chapter's words one by one.
func mixed(x uint64) uint64 {
	x = x ^ (x >> 30)
	x = x * 0xbf58476d1ce4e5b9
	x = x ^ (x >> 27)
	x = x * 0x94d049bb133111eb
	x = x ^ (x >> 31)
	return x
}

// turned goes bit by bit.
func turned(x uint64, n int) uint64 {
	by := n % 64
	if by < 0 {
		by += 64
	}
	var y uint64
	for k := range 64 {
		if x>>k&1 == 1 {
			y |= 1 << ((k + by) % 64)
		}
	}
	return y
}

// flipped goes bit by bit.
func flipped(x uint64) uint64 {
	var y uint64
	for k := range 64 {
		y = y<<1 | x>>k&1
	}
	return y
}

// turns are ways to turn: all near 0, and the edges of int.
func turns() []int {
	l := []int{math.MinInt, math.MinInt + 1, math.MinInt + 63, math.MaxInt, math.MaxInt - 1, math.MaxInt - 63, 1000, -1000}
	for n := -130; n <= 130; n++ {
		l = append(l, n)
	}
	return l
}

// TestMixKnown (P1.1): numbers reckoned by another program.
func TestMixKnown(t *testing.T) {
	for _, c := range []struct{ x, mixed, unmixed uint64 }{
		{0, 0, 0},
		{1, 0x5692161d100b05e5, 0x966dbfc16913c5d2},
		{2, 0xdbd238973a2b148a, 0x2cdb7f86d2278bb5},
		{3, 0x1e535eede31428f0, 0x24ca704e8bed1e8e},
		{1 << 30, 0x2ba0091cc9e3ceff, 0x927dd874dcd141c9},
		{1 << 32, 0xd820b7e910b0f93f, 0xa0d6349ed189bf84},
		{1 << 62, 0x12e13752bce754c5, 0x1ba3a849f5fed69c},
		{1<<63 - 1, 0x5a682afe7965debd, 0xab87026d85c1ddd2},
		{1 << 63, 0x25c26ea579cea98a, 0xce256ba94d67d15a},
		{1<<63 + 1, 0x22cb06b07578bbfe, 0xc845881df5528864},
		{math.MaxUint64 - 1, 0xda26e52fa3730902, 0xed4850b928dc8e2c},
		{math.MaxUint64, 0xb4d055fcf2cbbd7b, 0xcf9a04affa6badc0},
		{golden, 0xe220a8397b1dcdaf, 0x6b6e53b9d586db0b},
		{0x123456789abcdef0, 0x9629f58e8ec5b906, 0x3eb7e432bd024145},
	} {
		if got := mix.Mix(c.x); got != c.mixed {
			t.Errorf("Mix(%#x) = %#x, want %#x", c.x, got, c.mixed)
		}
		if got := mix.Unmix(c.x); got != c.unmixed {
			t.Errorf("Unmix(%#x) = %#x, want %#x", c.x, got, c.unmixed)
		}
	}
}

// TestMixByWords (P1.1): as the chapter says it, step by step.
func TestMixByWords(t *testing.T) {
	for _, x := range spread() {
		if got := mix.Mix(x); got != mixed(x) {
			t.Errorf("Mix(%#x) = %#x, want %#x", x, got, mixed(x))
		}
		if got := mix.Unmix(mixed(x)); got != x {
			t.Errorf("Unmix(%#x) = %#x, want %#x", mixed(x), got, x)
		}
	}
}

// TestOf (P1.1): keys of either sign, the least and the greatest one, and the one whose sum goes round to 0.
func TestOf(t *testing.T) {
	for _, c := range []struct {
		key  int64
		want uint64
	}{
		{0, 0xe220a8397b1dcdaf},
		{1, 0x910a2dec89025cc1},
		{2, 0x975835de1c9756ce},
		{42, 0xbdd732262feb6e95},
		{-1, 0xe4d971771b652c20},
		{-2, 0xf3203e9039f4a821},
		{math.MinInt64, 0x481ec0a212a9f3db},
		{math.MinInt64 + 1, 0xdc29f439bcbdda2a},
		{math.MaxInt64, 0x2a67d7552e039ea7},
		{7046029254386353131, 0},
		{-7046029254386353131, 0x6e789e6aa1b965f4},
	} {
		if got := mix.Of(c.key); got != c.want {
			t.Errorf("Of(%d) = %#x, want %#x", c.key, got, c.want)
		}
	}
	for _, x := range spread() {
		if got := mix.Of(int64(x)); got != mixed(x+golden) {
			t.Errorf("Of(%d) = %#x, want %#x", int64(x), got, mixed(x+golden))
		}
	}
}

// TestTurnKnown (P1.2): the chapter's examples, and the edges of both arguments.
func TestTurnKnown(t *testing.T) {
	for _, c := range []struct {
		x    uint64
		n    int
		want uint64
	}{
		{1, 65, 2},
		{1, -1, 1 << 63},
		{1, 0, 1},
		{1, 1, 2},
		{1, 63, 1 << 63},
		{1, 64, 1},
		{1 << 63, 1, 1},
		{1 << 63, 63, 1 << 62},
		{1 << 63, -63, 1},
		{3, -1, 1<<63 + 1},
		{3, -64, 3},
		{3, -65, 1<<63 + 1},
		{0xf0, 4, 0xf00},
		{0x123456789abcdef0, 16, 0x56789abcdef01234},
		{0x123456789abcdef0, -16, 0xdef0123456789abc},
		{5, math.MinInt, 5},
		{5, math.MaxInt, 1<<63 + 2},
		{0, 17, 0},
		{math.MaxUint64, 17, math.MaxUint64},
		{math.MaxUint64, math.MinInt, math.MaxUint64},
	} {
		if got := mix.Turn(c.x, c.n); got != c.want {
			t.Errorf("Turn(%#x, %d) = %#x, want %#x", c.x, c.n, got, c.want)
		}
	}
}

// TestTurnByBits (P1.2): each number by each way to turn.
func TestTurnByBits(t *testing.T) {
	for _, x := range spread()[:300] {
		for _, n := range turns() {
			if got := mix.Turn(x, n); got != turned(x, n) {
				t.Errorf("Turn(%#x, %d) = %#x, want %#x", x, n, got, turned(x, n))
			}
		}
	}
}

// TestFlip (P1.2): the chapter's examples, the edges, and all bits one by one.
func TestFlip(t *testing.T) {
	for _, c := range []struct{ x, want uint64 }{
		{0, 0},
		{1, 1 << 63},
		{3, 1<<63 + 1<<62},
		{6, 3 << 61},
		{1 << 63, 1},
		{math.MaxUint64, math.MaxUint64},
		{math.MaxUint64 - 1, 1<<63 - 1},
		{0x123456789abcdef0, 0x0f7b3d591e6a2c48},
	} {
		if got := mix.Flip(c.x); got != c.want {
			t.Errorf("Flip(%#x) = %#x, want %#x", c.x, got, c.want)
		}
	}
	for _, x := range spread() {
		if got := mix.Flip(x); got != flipped(x) {
			t.Errorf("Flip(%#x) = %#x, want %#x", x, got, flipped(x))
		}
	}
}

// TestMixOneToOne (P1.3): each number is some number, mixed, and just one.
func TestMixOneToOne(t *testing.T) {
	from := map[uint64]uint64{}
	for _, x := range spread() {
		y := mix.Mix(x)
		if old, is := from[y]; is && old != x {
			t.Errorf("Mix(%#x) = Mix(%#x) = %#x", x, old, y)
		}
		from[y] = x
		if got := mix.Unmix(y); got != x {
			t.Errorf("Unmix(Mix(%#x)) = %#x", x, got)
		}
		if got := mix.Mix(mix.Unmix(x)); got != x {
			t.Errorf("Mix(Unmix(%#x)) = %#x", x, got)
		}
	}
}

// TestTurnAndBack (P1.3): the least int, which has no number against it, is turned by 0.
func TestTurnAndBack(t *testing.T) {
	for _, x := range spread()[:300] {
		for _, n := range turns() {
			if got := mix.Turn(mix.Turn(x, n), -n); got != x {
				t.Errorf("Turn(Turn(%#x, %d), %d) = %#x", x, n, -n, got)
			}
		}
	}
}

// TestFlipTwice (P1.3).
func TestFlipTwice(t *testing.T) {
	for _, x := range spread() {
		if got := mix.Flip(mix.Flip(x)); got != x {
			t.Errorf("Flip(Flip(%#x)) = %#x", x, got)
		}
	}
}
