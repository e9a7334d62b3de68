package nat_test

import (
	"math"
	"math/big"
	"slices"
	"strings"
	"testing"

	"joinery/api"
	"joinery/nat"
)

// top is the greatest word.
const top = math.MaxUint32

// ones is the greatest number of so many words.
func ones(words int) api.Nat { return slices.Repeat(api.Nat{top}, words) }

// power is the word 1 behind so many noughts: 2^32 to that power.
func power(noughts int) api.Nat { return append(make(api.Nat, noughts), 1) }

// most is the greatest number that may be.
func most() api.Nat { return ones(api.MaxNat) }

// anyWords is a number of so many words, each of which comes of the seed.
func anyWords(words int, seed uint64) api.Nat {
	n := make(api.Nat, words)
	x := seed
	for k := range n {
		x = x*6364136223846793005 + 1442695040888963407
		n[k] = uint32(x>>32) | 1
	}
	return n
}

// numbers are numbers that may be, of all lengths: the least and the greatest ones of some of them, ones with noughts within, by words and by digits, and others. No two are the same.
func numbers() []api.Nat {
	l := []api.Nat{
		nil, {1}, {2}, {3}, {9}, {10}, {999_999_999}, {1_000_000_000}, {1_000_000_001}, {1<<31 - 1}, {1 << 31}, {top - 1}, {top},
		{0, 1}, {1, 1}, {top, 1}, {0, 2}, {0, 1 << 31}, {0, top}, {1, top}, {top - 1, top}, {top, top}, {0, 0, 1}, {1, 0, 1}, {top, 0, 1}, {0, 7, 0, 7},
	}
	for _, noughts := range []int64{16, 20, 99, 1233} {
		ten := new(big.Int).Exp(big.NewInt(10), big.NewInt(noughts), nil)
		even, _ := asked(ten)
		odd, _ := asked(ten.Add(ten, big.NewInt(7)))
		l = append(l, even, odd)
	}
	for _, words := range []int{3, 63, 64, 65, 127, 128} {
		ahead := ones(words)
		ahead[0]--
		l = append(l, ones(words), ahead, append(power(words - 1)[:words-1], 2), append(ones(words-1), 1))
	}
	for _, noughts := range []int{5, 62, 63, 64, 65, 126, 127} {
		over := power(noughts)
		over[0]++
		l = append(l, power(noughts), over)
	}
	for k, words := range []int{1, 2, 3, 4, 7, 16, 31, 33, 60, 64, 68, 100, 126, 128} {
		l = append(l, anyWords(words, uint64(k)))
	}
	return l
}

// strangers are numbers that may not be: each has a nought at its end, or too many words.
func strangers() []api.Nat {
	noughtAtLast := most()
	noughtAtLast[api.MaxNat-1] = 0
	return []api.Nat{
		{0}, {0, 0}, {1, 0}, {0, 1, 0}, {5, 7, 0, 0}, noughtAtLast, make(api.Nat, api.MaxNat),
		ones(api.MaxNat + 1), power(api.MaxNat), append(most(), 0), make(api.Nat, api.MaxNat+1), ones(2 * api.MaxNat), append(ones(5000), 0),
	}
}

// great is the number that words stand for.
func great(n api.Nat) *big.Int {
	g := new(big.Int)
	for _, w := range slices.Backward(n) {
		g.Lsh(g, 32)
		g.Add(g, big.NewInt(int64(w)))
	}
	return g
}

// asked is what is to be answered, where it is that number: its words, or that it is too long.
func asked(g *big.Int) (api.Nat, api.Errno) {
	var n api.Nat
	base := big.NewInt(1 << 32)
	for rest, word := new(big.Int).Set(g), new(big.Int); rest.Sign() > 0; {
		rest.DivMod(rest, base, word)
		n = append(n, uint32(word.Uint64()))
	}
	if len(n) > api.MaxNat {
		return nil, api.ErrLong
	}
	return n, api.OK
}

// answer is what a call answers that tells a number, or an error.
type answer struct {
	n api.Nat
	e api.Errno
}

// answered puts together what a call answers.
func answered(n api.Nat, e api.Errno) answer { return answer{n, e} }

// see fails the test, unless that number was answered, or that error and nothing beside it.
func see(t *testing.T, what string, got, want answer) {
	t.Helper()
	if got.e != want.e || !slices.Equal(got.n, want.n) {
		t.Errorf("%s: %d, %v, not %d, %v", what, got.n, got.e, want.n, want.e)
	}
}

// refused fails the test, unless that error was answered, and nothing beside it.
func refused(t *testing.T, what string, got answer, e api.Errno) {
	t.Helper()
	see(t, what, got, answer{nil, e})
}

// TestExamples: those of the chapter.
func TestExamples(t *testing.T) {
	see(t, "From(2^32)", answer{n: nat.From(1 << 32)}, answer{n: api.Nat{0, 1}})
	see(t, "2^64 - 1 and 1", answered(nat.Add(nat.From(math.MaxUint64), nat.From(1))), answer{n: api.Nat{0, 0, 1}})
	hundred, e := nat.Pow(nat.From(2), 100)
	if text := nat.Text(hundred); text != "1267650600228229401496703205376" || e != api.OK {
		t.Errorf("2^100: %s, %v", text, e)
	}
	see(t, "Fib(10)", answered(nat.Fib(10)), answer{n: api.Nat{55}})
	refused(t, "2^63 to the power of 66", answered(nat.Pow(nat.From(1<<63), 66)), api.ErrLong)
}

// TestFrom (P7.1): words, the lowest one first, and none of 0.
func TestFrom(t *testing.T) {
	for _, c := range []struct {
		x    uint64
		want api.Nat
	}{
		{0, nil}, {1, api.Nat{1}}, {7, api.Nat{7}}, {1<<32 - 1, api.Nat{top}}, {1 << 32, api.Nat{0, 1}}, {1<<32 + 1, api.Nat{1, 1}}, {3 << 32, api.Nat{0, 3}},
		{1<<33 + 5, api.Nat{5, 2}}, {1 << 63, api.Nat{0, 1 << 31}}, {math.MaxUint64 - 1, api.Nat{top - 1, top}}, {math.MaxUint64, api.Nat{top, top}},
	} {
		n := nat.From(c.x)
		see(t, "From", answer{n: n}, answer{n: c.want})
		if !nat.May(n) || great(n).Uint64() != c.x {
			t.Errorf("From(%d) = %d", c.x, n)
		}
	}
}

// TestMay (P7.1): a number has a last word that is not 0, and no more words than may be.
func TestMay(t *testing.T) {
	for _, n := range numbers() {
		if !nat.May(n) {
			t.Errorf("%d may not be", n)
		}
	}
	for words := range api.MaxNat + 1 {
		if !nat.May(ones(words)) {
			t.Errorf("%d words may not be", words)
		}
	}
	if !nat.May(api.Nat{}) || !nat.May(nil) {
		t.Error("0 may not be")
	}
	for _, n := range strangers() {
		if nat.May(n) {
			t.Errorf("%d may be", n)
		}
	}
}

// TestAdd (P7.1): all sums of two of the numbers, by great numbers of another kind.
func TestAdd(t *testing.T) {
	for _, a := range numbers() {
		for _, b := range numbers() {
			see(t, "Add", answered(nat.Add(a, b)), answered(asked(new(big.Int).Add(great(a), great(b)))))
		}
	}
}

// TestMul (P7.1): all products of two of the numbers, likewise.
func TestMul(t *testing.T) {
	for _, a := range numbers() {
		for _, b := range numbers() {
			see(t, "Mul", answered(nat.Mul(a, b)), answered(asked(new(big.Int).Mul(great(a), great(b)))))
		}
	}
}

// TestCarries (P7.1): what is carried through all words of a number, up to the last one and beyond.
func TestCarries(t *testing.T) {
	for words := 1; words < api.MaxNat; words++ {
		see(t, "ones and 1", answered(nat.Add(ones(words), api.Nat{1})), answer{n: power(words)})
		see(t, "1 and ones", answered(nat.Add(api.Nat{1}, ones(words))), answer{n: power(words)})
		double := append(append(api.Nat{top - 1}, ones(words-1)...), 1)
		see(t, "ones twice", answered(nat.Add(ones(words), ones(words))), answer{n: double})
		see(t, "ones, times 2", answered(nat.Mul(ones(words), api.Nat{2})), answer{n: double})
		see(t, "2 times ones", answered(nat.Mul(api.Nat{2}, ones(words))), answer{n: double})
	}
	for words := 1; words <= api.MaxNat/2; words++ {
		// (b - 1)(b - 1) is b(b - 2) + 1.
		square := slices.Concat(power(0), make(api.Nat, words-1), api.Nat{top - 1}, ones(words-1))
		see(t, "ones, times ones", answered(nat.Mul(ones(words), ones(words))), answer{n: square})
	}
}

// TestLongestSums (P7.1): sums of just MaxNat words, and of one more.
func TestLongestSums(t *testing.T) {
	less := most()
	less[0] = 0
	half := append(make(api.Nat, api.MaxNat-1), 1<<31)
	underHalf := append(ones(api.MaxNat-1), 1<<31-1)
	for _, c := range []struct {
		a, b, want api.Nat
	}{{most(), nil, most()}, {less, api.Nat{top}, most()}, {half, underHalf, most()}, {ones(api.MaxNat - 1), api.Nat{1}, power(api.MaxNat - 1)}} {
		see(t, "Add", answered(nat.Add(c.a, c.b)), answer{n: c.want})
		see(t, "Add", answered(nat.Add(c.b, c.a)), answer{n: c.want})
	}
	for _, c := range [][2]api.Nat{{most(), {1}}, {most(), most()}, {half, half}, {most(), ones(3)}, {most(), power(api.MaxNat - 1)}} {
		refused(t, "Add", answered(nat.Add(c[0], c[1])), api.ErrLong)
		refused(t, "Add", answered(nat.Add(c[1], c[0])), api.ErrLong)
	}
}

// TestLongestProducts (P7.1): products of just MaxNat words, and of one more; 0 times the longest is not long.
func TestLongestProducts(t *testing.T) {
	const half = api.MaxNat / 2
	for _, c := range []struct {
		a, b, want api.Nat
	}{
		{most(), nil, nil}, {nil, nil, nil}, {nil, api.Nat{3}, nil},
		{most(), api.Nat{1}, most()}, {power(half), power(half - 1), power(api.MaxNat - 1)}, {power(api.MaxNat - 1), api.Nat{top}, append(make(api.Nat, api.MaxNat-1), top)},
		{power(half - 1), ones(half + 1), append(make(api.Nat, half-1), ones(half+1)...)}, {power(api.MaxNat - 2), ones(2), append(make(api.Nat, api.MaxNat-2), top, top)},
	} {
		see(t, "Mul", answered(nat.Mul(c.a, c.b)), answer{n: c.want})
		see(t, "Mul", answered(nat.Mul(c.b, c.a)), answer{n: c.want})
	}
	if n, e := nat.Mul(ones(half), ones(half)); len(n) != api.MaxNat || e != api.OK {
		t.Errorf("Mul: %d words, %v", len(n), e)
	}
	for _, c := range [][2]api.Nat{
		{most(), {2}}, {most(), most()}, {power(half), power(half)}, {power(api.MaxNat - 1), {0, 1}}, {ones(half + 1), ones(half)}, {append(make(api.Nat, api.MaxNat-1), 1<<31), {2}}, {most(), {top}},
	} {
		refused(t, "Mul", answered(nat.Mul(c[0], c[1])), api.ErrLong)
		refused(t, "Mul", answered(nat.Mul(c[1], c[0])), api.ErrLong)
	}
}

// TestPow (P7.1): each number to the power of each exponent, by great numbers of another kind.
func TestPow(t *testing.T) {
	for _, n := range numbers() {
		want := big.NewInt(1)
		for e := range api.MaxExp + 1 {
			see(t, "Pow", answered(nat.Pow(n, e)), answered(asked(want)))
			// Beyond the longest number a power of 2 or more stays too long.
			if want.BitLen() <= 32*api.MaxNat {
				want.Mul(want, great(n))
			}
		}
	}
}

// TestPowEdges (P7.1): exponents 0, 1 and the last one, powers of 0 and 1, and powers too long by one word.
func TestPowEdges(t *testing.T) {
	one := api.Nat{1}
	for _, c := range []struct {
		n    api.Nat
		e    int
		want api.Nat
	}{
		{nil, 0, one}, {nil, 1, nil}, {nil, api.MaxExp, nil}, {one, 0, one}, {one, 1, one}, {one, api.MaxExp, one},
		{most(), 0, one}, {most(), 1, most()}, {api.Nat{2}, api.MaxExp, api.Nat{0, 0, 0, 0, 0, 0, 1 << 8}}, {api.Nat{0, 1}, api.MaxNat - 1, power(api.MaxNat - 1)},
		{api.Nat{0, 1 << 31}, 65, append(make(api.Nat, api.MaxNat-1), 1<<31)}, {power(63), 2, power(126)}, {api.Nat{1 << 31}, 132, append(make(api.Nat, 127), 1<<28)},
	} {
		see(t, "Pow", answered(nat.Pow(c.n, c.e)), answer{n: c.want})
	}
	for _, c := range []struct {
		n api.Nat
		e int
	}{{api.Nat{0, 1}, api.MaxNat}, {api.Nat{1 << 31}, 133}, {power(64), 2}, {most(), 2}, {most(), api.MaxExp}, {api.Nat{0, 1 << 31}, 66}, {api.Nat{0, 1}, api.MaxExp}} {
		refused(t, "Pow", answered(nat.Pow(c.n, c.e)), api.ErrLong)
	}
}

// TestPowRefused (P7.1): exponents that may not be, whatever the number is, even where the power would be too long.
func TestPowRefused(t *testing.T) {
	for _, n := range append(numbers(), strangers()...) {
		for _, e := range []int{-1, api.MaxExp + 1, -2, 1000, math.MinInt32, math.MaxInt32, math.MinInt, math.MaxInt} {
			refused(t, "Pow", answered(nat.Pow(n, e)), api.ErrArg)
		}
	}
}

// TestStrangers (P7.1, P7.2): numbers that may not be, as the first one and as the second one, with such as may and such as may not.
func TestStrangers(t *testing.T) {
	for _, bad := range strangers() {
		for _, n := range append(numbers(), strangers()...) {
			refused(t, "Add", answered(nat.Add(bad, n)), api.ErrArg)
			refused(t, "Add", answered(nat.Add(n, bad)), api.ErrArg)
			refused(t, "Mul", answered(nat.Mul(bad, n)), api.ErrArg)
			refused(t, "Mul", answered(nat.Mul(n, bad)), api.ErrArg)
			if a, b := nat.Cmp(bad, n), nat.Cmp(n, bad); a != 0 || b != 0 {
				t.Errorf("Cmp of %d and %d: %d, and turned about %d", bad, n, a, b)
			}
		}
		for _, e := range []int{0, 1, 2, api.MaxExp} {
			refused(t, "Pow", answered(nat.Pow(bad, e)), api.ErrArg)
		}
		if text := nat.Text(bad); text != "" {
			t.Errorf("Text(%d) = %q", bad, text)
		}
	}
}

// TestCmp (P7.2): each two of the numbers.
func TestCmp(t *testing.T) {
	for _, a := range numbers() {
		for _, b := range numbers() {
			if got, want := nat.Cmp(a, b), great(a).Cmp(great(b)); got != want {
				t.Errorf("Cmp(%d, %d) = %d, not %d", a, b, got, want)
			}
		}
	}
}

// TestCmpEdges (P7.2): numbers of unlike lengths, and ones that differ in one word alone, wherever it stands.
func TestCmpEdges(t *testing.T) {
	for words := range api.MaxNat {
		if less, greater := nat.Cmp(ones(words), power(words)), nat.Cmp(power(words), ones(words)); less != -1 || greater != 1 {
			t.Errorf("%d words: %d, and turned about %d", words, less, greater)
		}
	}
	for place := range api.MaxNat {
		a, b := most(), most()
		a[place]--
		if less, greater := nat.Cmp(a, b), nat.Cmp(b, a); less != -1 || greater != 1 {
			t.Errorf("unlike at %d: %d, and turned about %d", place, less, greater)
		}
	}
	// The higher word tells, whatever those below it are.
	if got := nat.Cmp(api.Nat{top, top, 1, 5}, api.Nat{0, 0, 2, 5}); got != -1 {
		t.Errorf("Cmp = %d", got)
	}
	if got := nat.Cmp(nil, api.Nat{}); got != 0 {
		t.Errorf("0 and 0: %d", got)
	}
}

// TestText (P7.2): each of the numbers, and ones around powers of 10, whose digits are noughts and nines.
func TestText(t *testing.T) {
	for _, n := range numbers() {
		if got, want := nat.Text(n), great(n).String(); got != want {
			t.Errorf("Text(%d) = %s, not %s", n, got, want)
		}
	}
	for k := range 1233 {
		ten := new(big.Int).Exp(big.NewInt(10), big.NewInt(int64(k)), nil)
		for add := int64(-1); add <= 1; add++ {
			want := new(big.Int).Add(ten, big.NewInt(add))
			n, e := asked(want)
			if got := nat.Text(n); got != want.String() || e != api.OK {
				t.Errorf("10^%d and %d: %s, %v", k, add, got, e)
			}
		}
	}
}

// TestTextEdges (P7.2): 0, a lone digit, noughts within, and the greatest number.
func TestTextEdges(t *testing.T) {
	for _, c := range []struct {
		n    api.Nat
		want string
	}{
		{nil, "0"}, {api.Nat{}, "0"}, {api.Nat{7}, "7"}, {api.Nat{1_000_000_000}, "1000000000"}, {api.Nat{2_000_000_003}, "2000000003"},
		{nat.From(5_000_000_000_000_000_006), "5000000000000000006"}, {nat.From(1_000_000_010_000_000_000), "1000000010000000000"}, {nat.From(math.MaxUint64), "18446744073709551615"},
	} {
		if got := nat.Text(c.n); got != c.want {
			t.Errorf("Text(%d) = %q, not %q", c.n, got, c.want)
		}
	}
	whole := new(big.Int).Lsh(big.NewInt(1), 32*api.MaxNat)
	want := whole.Sub(whole, big.NewInt(1)).String()
	if got := nat.Text(most()); got != want || len(got) != 1234 || strings.HasPrefix(got, "0") {
		t.Errorf("the greatest number: %s", got)
	}
}

// TestFib (P7.2): all of Fibonacci's numbers that there are.
func TestFib(t *testing.T) {
	this, next := big.NewInt(0), big.NewInt(1)
	for n := range api.MaxFib + 1 {
		see(t, "Fib", answered(nat.Fib(n)), answered(asked(this)))
		this, next = next, new(big.Int).Add(this, next)
	}
}

// TestFibEdges (P7.2): the first numbers, the last one, and those that there are not.
func TestFibEdges(t *testing.T) {
	for n, want := range map[int]string{0: "0", 1: "1", 2: "1", 3: "2", 4: "3", 47: "2971215073", 48: "4807526976", 93: "12200160415121876738", 94: "19740274219868223167", api.MaxFib: "280571172992510140037611932413038677189525"} {
		f, e := nat.Fib(n)
		if got := nat.Text(f); got != want || e != api.OK {
			t.Errorf("Fib(%d): %s, %v", n, got, e)
		}
	}
	for _, n := range []int{-1, api.MaxFib + 1, -2, 1000, math.MinInt32, math.MaxInt32, math.MinInt, math.MaxInt} {
		refused(t, "Fib", answered(nat.Fib(n)), api.ErrArg)
	}
}
