package nat_test

import (
	"testing"

	"joinery/api"
	"joinery/nat"
)

// small are numbers so short that any three of them may be multiplied.
func small() []api.Nat {
	var l []api.Nat
	for _, n := range numbers() {
		if len(n) <= api.MaxNat/4 {
			l = append(l, n)
		}
	}
	return l
}

// some are numbers of all lengths, fewer than all.
func some() []api.Nat {
	var l []api.Nat
	for k, n := range numbers() {
		if len(n) == 0 || k%4 == 1 {
			l = append(l, n)
		}
	}
	return append(l, most())
}

// sum and product do what the calls do, and hand an error on.
func sum(a, b answer) answer     { return then(nat.Add, a, b) }
func product(a, b answer) answer { return then(nat.Mul, a, b) }

func then(do func(a, b api.Nat) (api.Nat, api.Errno), a, b answer) answer {
	if a.e != api.OK {
		return a
	}
	if b.e != api.OK {
		return b
	}
	return answered(do(a.n, b.n))
}

// TestTurnedAbout (P7.3): sums and products may change places.
func TestTurnedAbout(t *testing.T) {
	for _, a := range numbers() {
		for _, b := range numbers() {
			see(t, "a sum, turned about", answered(nat.Add(b, a)), answered(nat.Add(a, b)))
			see(t, "a product, turned about", answered(nat.Mul(b, a)), answered(nat.Mul(a, b)))
		}
	}
}

// TestAnyOrder (P7.3): sums of three are put together in any order, those that are too long, too; likewise products, where no factor is 0, which makes short what was too long on the way.
func TestAnyOrder(t *testing.T) {
	for _, l := range [][]api.Nat{some(), small()} {
		for _, one := range l {
			for _, two := range l {
				for _, three := range l {
					a, b, c := answer{n: one}, answer{n: two}, answer{n: three}
					see(t, "a sum of three", sum(sum(a, b), c), sum(a, sum(b, c)))
					if len(one) > 0 && len(two) > 0 && len(three) > 0 {
						see(t, "a product of three", product(product(a, b), c), product(a, product(b, c)))
					}
				}
			}
		}
	}
}

// TestProductOfSum (P7.3): a product of a sum is the sum of the products, if the factor is not 0 too: such a sum may be too long, and yet nothing comes of its parts.
func TestProductOfSum(t *testing.T) {
	for _, l := range [][]api.Nat{some(), small()} {
		for _, one := range l {
			for _, two := range l {
				for _, three := range l {
					a, b, c := answer{n: one}, answer{n: two}, answer{n: three}
					if both := sum(b, c); both.e == api.OK || len(one) > 0 {
						see(t, "a product of a sum", product(a, both), sum(product(a, b), product(a, c)))
					}
				}
			}
		}
	}
}

// TestNothingAndOne (P7.3): 0 adds nothing, 0 times is 0, and 1 times is the number.
func TestNothingAndOne(t *testing.T) {
	for _, n := range numbers() {
		see(t, "and 0", answered(nat.Add(n, nil)), answer{n: n})
		see(t, "0 times", answered(nat.Mul(n, nil)), answer{})
		see(t, "1 times", answered(nat.Mul(n, api.Nat{1})), answer{n: n})
	}
}

// TestExponents (P7.3): powers of one number are multiplied by adding their exponents.
func TestExponents(t *testing.T) {
	exponents := []int{0, 1, 2, 3, 7, 20, 64, 65, 99, 100}
	for _, n := range numbers() {
		for _, d := range exponents {
			for _, e := range exponents {
				a, b := answered(nat.Pow(n, d)), answered(nat.Pow(n, e))
				see(t, "powers, multiplied", product(a, b), answered(nat.Pow(n, d+e)))
			}
		}
	}
}

// TestLessStays (P7.3): what is less stays so, if the same is added; and what is the same does.
func TestLessStays(t *testing.T) {
	for _, a := range some() {
		for _, b := range some() {
			for _, c := range some() {
				first, second := answered(nat.Add(a, c)), answered(nat.Add(b, c))
				if first.e != api.OK || second.e != api.OK {
					continue
				}
				if got, want := nat.Cmp(first.n, second.n), nat.Cmp(a, b); got != want {
					t.Errorf("%d, %d and %d: %d, not %d", a, b, c, got, want)
				}
			}
		}
	}
}

// TestFibonacciLaws (P7.2, P7.3): each number is the sum of the two ahead of it, and is no less than the one ahead.
func TestFibonacciLaws(t *testing.T) {
	for n := 2; n <= api.MaxFib; n++ {
		two, one, this := answered(nat.Fib(n-2)), answered(nat.Fib(n-1)), answered(nat.Fib(n))
		see(t, "Fib", this, sum(two, one))
		if got := nat.Cmp(one.n, this.n); got > 0 || got == 0 && n != 2 {
			t.Errorf("Fib(%d) and the one ahead: %d", n, got)
		}
	}
}
