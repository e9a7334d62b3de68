package order_test

import (
	"cmp"
	"math"
	"math/big"
	"slices"
	"testing"

	"joinery/api"
	"joinery/mix"
	"joinery/order"
)

// strangers are numbers of orders that there are not.
func strangers() []uint8 {
	l := []uint8{0}
	for o := api.Orders + 1; o <= math.MaxUint8; o++ {
		l = append(l, uint8(o))
	}
	return l
}

// all are the orders that there are.
func all() []uint8 {
	var l []uint8
	for o := range api.Orders {
		l = append(l, uint8(o+1))
	}
	return l
}

// edges are the least and the greatest keys, those around 0, and those around each power of two.
func edges() []int64 {
	l := []int64{math.MinInt64, math.MinInt64 + 1, math.MinInt64 + 2, math.MaxInt64, math.MaxInt64 - 1, math.MaxInt64 - 2, 0}
	for n := range 63 {
		bit := int64(1) << n
		l = append(l, bit-1, bit, bit+1, -bit-1, -bit, 1-bit)
	}
	slices.Sort(l)
	return slices.Compact(l)
}

// keys are the edges, and keys from all over the range.
func keys() []int64 {
	l := edges()
	x := uint64(1)
	for range 2000 {
		x = x*6364136223846793005 + 1442695040888963407
		l = append(l, int64(x))
	}
	return l
}

// reckoned follows the chapter's table by great numbers, which do not go round by themselves.
func reckoned(o uint8, key int64) uint64 {
	k, one := big.NewInt(key), big.NewInt(1)
	whole := new(big.Int).Lsh(one, 64)
	most := new(big.Int).Sub(whole, one)
	u := new(big.Int).Mod(k, whole)
	up := new(big.Int).Mod(new(big.Int).Add(u, new(big.Int).Lsh(one, 63)), whole)
	code := new(big.Int)
	switch o {
	case api.OrUp:
		code.Set(up)
	case api.OrDown:
		code.Sub(most, up)
	case api.OrSize:
		code.Mul(big.NewInt(2), k)
		if k.Sign() < 0 {
			code.Sub(code.Neg(code), one)
		}
	case api.OrBits:
		for n := range 64 {
			code.SetBit(code, 63-n, u.Bit(n))
		}
	case api.OrEven:
		code.Rsh(up, 1)
		if u.Bit(0) == 1 {
			code.Add(code, new(big.Int).Lsh(one, 63))
		}
	case api.OrLow:
		for n := range 64 {
			code.SetBit(code, (n+32)%64, up.Bit(n))
		}
	case api.OrMix:
		code.SetUint64(mix.Mix(u.Uint64()))
	}
	return code.Uint64()
}

// TestCodesKnown (P2.1): codes reckoned by another program, by each order, from OrUp to OrMix.
func TestCodesKnown(t *testing.T) {
	for _, c := range []struct {
		key   int64
		codes [api.Orders]uint64
	}{
		{math.MinInt64, [api.Orders]uint64{0x0, 0xffffffffffffffff, 0xffffffffffffffff, 0x1, 0x0, 0x0, 0x25c26ea579cea98a}},
		{math.MinInt64 + 1, [api.Orders]uint64{0x1, 0xfffffffffffffffe, 0xfffffffffffffffd, 0x8000000000000001, 0x8000000000000000, 0x100000000, 0x22cb06b07578bbfe}},
		{-1 << 32, [api.Orders]uint64{0x7fffffff00000000, 0x80000000ffffffff, 0x1ffffffff, 0xffffffff, 0x3fffffff80000000, 0x7fffffff, 0xb742092f23ab85b3}},
		{-2, [api.Orders]uint64{0x7ffffffffffffffe, 0x8000000000000001, 0x3, 0x7fffffffffffffff, 0x3fffffffffffffff, 0xfffffffe7fffffff, 0xda26e52fa3730902}},
		{-1, [api.Orders]uint64{0x7fffffffffffffff, 0x8000000000000000, 0x1, 0xffffffffffffffff, 0xbfffffffffffffff, 0xffffffff7fffffff, 0xb4d055fcf2cbbd7b}},
		{0, [api.Orders]uint64{0x8000000000000000, 0x7fffffffffffffff, 0x0, 0x0, 0x4000000000000000, 0x80000000, 0x0}},
		{1, [api.Orders]uint64{0x8000000000000001, 0x7ffffffffffffffe, 0x2, 0x8000000000000000, 0xc000000000000000, 0x180000000, 0x5692161d100b05e5}},
		{2, [api.Orders]uint64{0x8000000000000002, 0x7ffffffffffffffd, 0x4, 0x4000000000000000, 0x4000000000000001, 0x280000000, 0xdbd238973a2b148a}},
		{3, [api.Orders]uint64{0x8000000000000003, 0x7ffffffffffffffc, 0x6, 0xc000000000000000, 0xc000000000000001, 0x380000000, 0x1e535eede31428f0}},
		{1 << 32, [api.Orders]uint64{0x8000000100000000, 0x7ffffffeffffffff, 0x200000000, 0x80000000, 0x4000000080000000, 0x80000001, 0xd820b7e910b0f93f}},
		{1234567890123456789, [api.Orders]uint64{0x912210f47de98115, 0x6eddef0b82167eea, 0x224421e8fbd3022a, 0xa88197be2f084488, 0xc891087a3ef4c08a, 0x7de98115912210f4, 0xc83574ddd6ce4a52}},
		{math.MaxInt64 - 1, [api.Orders]uint64{0xfffffffffffffffe, 0x1, 0xfffffffffffffffc, 0x7ffffffffffffffe, 0x7fffffffffffffff, 0xfffffffeffffffff, 0xc0302f9d2e69ff27}},
		{math.MaxInt64, [api.Orders]uint64{0xffffffffffffffff, 0x0, 0xfffffffffffffffe, 0xfffffffffffffffe, 0xffffffffffffffff, 0xffffffffffffffff, 0x5a682afe7965debd}},
	} {
		for k, want := range c.codes {
			o := uint8(k + 1)
			if got, e := order.Code(o, c.key); got != want || e != api.OK {
				t.Errorf("Code(%d, %d) = %#x, %v, want %#x", o, c.key, got, e, want)
			}
			if got, e := order.Key(o, want); got != c.key || e != api.OK {
				t.Errorf("Key(%d, %#x) = %d, %v, want %d", o, want, got, e, c.key)
			}
		}
	}
}

// TestExamples (P2.1, P2.2): the chapter's.
func TestExamples(t *testing.T) {
	if c, e := order.Code(api.OrUp, 0); c != 1<<63 || e != api.OK {
		t.Errorf("Code(OrUp, 0) = %d, %v", c, e)
	}
	if c, e := order.Code(api.OrSize, -1); c != 1 || e != api.OK {
		t.Errorf("Code(OrSize, -1) = %d, %v", c, e)
	}
	if c, e := order.Code(api.OrSize, 1); c != 2 || e != api.OK {
		t.Errorf("Code(OrSize, 1) = %d, %v", c, e)
	}
	if k, e := order.Key(api.OrSize, 3); k != -2 || e != api.OK {
		t.Errorf("Key(OrSize, 3) = %d, %v", k, e)
	}
	if got := order.Compare(api.OrEven, 2, 1); got != -1 {
		t.Errorf("Compare(OrEven, 2, 1) = %d", got)
	}
	if got := order.Name(3); got != "size" {
		t.Errorf("Name(3) = %q", got)
	}
	if got := order.Of("low"); got != 6 {
		t.Errorf("Of(low) = %d", got)
	}
}

// TestCodesByWords (P2.1): as the chapter's table says it, and back.
func TestCodesByWords(t *testing.T) {
	for _, o := range all() {
		for _, key := range keys() {
			want := reckoned(o, key)
			if got, e := order.Code(o, key); got != want || e != api.OK {
				t.Errorf("Code(%d, %d) = %#x, %v, want %#x", o, key, got, e, want)
			}
			if got, e := order.Key(o, want); got != key || e != api.OK {
				t.Errorf("Key(%d, %#x) = %d, %v, want %d", o, want, got, e, key)
			}
		}
	}
}

// TestCompareByCodes (P2.1): any two keys, either way round.
func TestCompareByCodes(t *testing.T) {
	l := edges()
	for _, o := range all() {
		codes := make([]uint64, len(l))
		for i, key := range l {
			codes[i] = reckoned(o, key)
		}
		for i, a := range l {
			for j, b := range l {
				want := cmp.Compare(codes[i], codes[j])
				if got := order.Compare(o, a, b); got != want {
					t.Fatalf("Compare(%d, %d, %d) = %d, want %d", o, a, b, got, want)
				}
			}
		}
	}
}

// TestNoOrder (P2.1, P2.2): of orders that there are not; beside the error is 0.
func TestNoOrder(t *testing.T) {
	for _, o := range strangers() {
		for _, x := range []int64{math.MinInt64, -1, 0, 1, math.MaxInt64} {
			if c, e := order.Code(o, x); c != 0 || e != api.ErrArg {
				t.Errorf("Code(%d, %d) = %d, %v", o, x, c, e)
			}
			if k, e := order.Key(o, uint64(x)); k != 0 || e != api.ErrArg {
				t.Errorf("Key(%d, %d) = %d, %v", o, uint64(x), k, e)
			}
			for _, y := range []int64{math.MinInt64, 0, math.MaxInt64} {
				if got := order.Compare(o, x, y); got != 0 {
					t.Errorf("Compare(%d, %d, %d) = %d", o, x, y, got)
				}
			}
		}
		if got := order.Name(o); got != "" {
			t.Errorf("Name(%d) = %q", o, got)
		}
	}
}

// TestNames (P2.2): each order's name, and the order of each name.
func TestNames(t *testing.T) {
	for o, want := range map[uint8]string{
		api.OrUp:   "up",
		api.OrDown: "down",
		api.OrSize: "size",
		api.OrBits: "bits",
		api.OrEven: "even",
		api.OrLow:  "low",
		api.OrMix:  "mix",
	} {
		if got := order.Name(o); got != want {
			t.Errorf("Name(%d) = %q, want %q", o, got, want)
		}
		if got := order.Of(want); got != o {
			t.Errorf("Of(%q) = %d, want %d", want, got, o)
		}
	}
}

// TestNoName (P2.2): names that there are not, those that are nearly one among them.
func TestNoName(t *testing.T) {
	for _, name := range []string{"", " ", "Up", "UP", " up", "up ", "u", "upp", "updown", "down\n", "si", "sizes", "mixed", "odd", "OrUp", "1", "\x00", "up\x00", "\xff", "ü"} {
		if got := order.Of(name); got != 0 {
			t.Errorf("Of(%q) = %d, want 0", name, got)
		}
	}
}

// TestOneToOne (P2.3): each number is the code of just one key.
func TestOneToOne(t *testing.T) {
	for _, o := range all() {
		from := map[uint64]int64{}
		for _, key := range keys() {
			c, _ := order.Code(o, key)
			if old, is := from[c]; is && old != key {
				t.Errorf("order %d: %d and %d have the code %#x", o, old, key, c)
			}
			from[c] = key
			if back, e := order.Key(o, c); back != key || e != api.OK {
				t.Errorf("Key(%d, Code(%d)) = %d, %v", o, key, back, e)
			}
			k, e := order.Key(o, uint64(key))
			if e != api.OK {
				t.Errorf("Key(%d, %#x): %v", o, uint64(key), e)
			}
			if c, e := order.Code(o, k); c != uint64(key) || e != api.OK {
				t.Errorf("Code(%d, Key(%#x)) = %#x, %v", o, uint64(key), c, e)
			}
		}
	}
}

// TestOneRow (P2.3): whichever way round keys come, each order puts them in the same row, in which each stands ahead of all behind it.
func TestOneRow(t *testing.T) {
	for _, o := range all() {
		by := func(a, b int64) int { return order.Compare(o, a, b) }
		l := edges()
		turned := slices.Clone(l)
		slices.Reverse(turned)
		slices.SortFunc(l, by)
		slices.SortFunc(turned, by)
		if !slices.Equal(l, turned) {
			t.Errorf("order %d: two rows of the same keys", o)
		}
		for i, a := range l {
			if by(a, a) != 0 {
				t.Errorf("Compare(%d, %d, %d) is not 0", o, a, a)
			}
			for _, b := range l[i+1:] {
				if by(a, b) != -1 || by(b, a) != 1 {
					t.Fatalf("order %d: %d is not ahead of %d", o, a, b)
				}
			}
		}
	}
}

// TestWhoIsAhead (P2.3): by OrUp, OrDown, OrSize and OrEven, told without codes.
func TestWhoIsAhead(t *testing.T) {
	far := func(k int64) *big.Int { return new(big.Int).Abs(big.NewInt(k)) }
	l := edges()
	for _, a := range l {
		if a != 0 && order.Compare(api.OrSize, 0, a) != -1 {
			t.Errorf("by OrSize 0 is not ahead of %d", a)
		}
		for _, b := range l {
			if a < b && order.Compare(api.OrUp, a, b) != -1 {
				t.Errorf("by OrUp %d is not ahead of %d", a, b)
			}
			if a > b && order.Compare(api.OrDown, a, b) != -1 {
				t.Errorf("by OrDown %d is not ahead of %d", a, b)
			}
			if far(a).Cmp(far(b)) < 0 && order.Compare(api.OrSize, a, b) != -1 {
				t.Errorf("by OrSize %d is not ahead of %d", a, b)
			}
			if a%2 == 0 && b%2 != 0 && order.Compare(api.OrEven, a, b) != -1 {
				t.Errorf("by OrEven %d is not ahead of %d", a, b)
			}
			if a%2 == 0 == (b%2 == 0) && order.Compare(api.OrEven, a, b) != order.Compare(api.OrUp, a, b) {
				t.Errorf("by OrEven %d and %d do not stand as by OrUp", a, b)
			}
		}
	}
}
