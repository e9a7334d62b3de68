package nat_test

import (
	"slices"
	"testing"

	"joinery/api"
	"joinery/nat"
)

// roomy is the number at the front of greater memory, with what lies behind its end, so that a write there can be seen.
func roomy(n api.Nat) (piece, whole api.Nat) {
	whole = append(slices.Clone(n), 777, 778, 779)
	return whole[:len(n)], whole
}

// scribble writes all over a number, and behind its end as far as its memory goes.
func scribble(n api.Nat) {
	n = n[:cap(n)]
	for k := range n {
		n[k] = 99
	}
}

// answersOf are the numbers that the calls answer of two: where one of them is 0, or 1, the answer is the other one. May, Cmp and Text are called, too.
func answersOf(a, b api.Nat) []api.Nat {
	add, _ := nat.Add(a, b)
	mul, _ := nat.Mul(a, b)
	none, _ := nat.Pow(a, 0)
	same, _ := nat.Pow(a, 1)
	square, _ := nat.Pow(b, 2)
	nat.May(a)
	nat.Cmp(a, b)
	nat.Text(a)
	return []api.Nat{add, mul, none, same, square}
}

// pairs are numbers two by two, 0 and 1 with any of them, and some that may not be.
func pairs() [][2]api.Nat {
	var l [][2]api.Nat
	for _, n := range append(some(), strangers()...) {
		for _, other := range []api.Nat{nil, {1}, {top}, ones(3), most(), {0}} {
			l = append(l, [2]api.Nat{n, other}, [2]api.Nat{other, n})
		}
	}
	return l
}

// TestNumbersStay (P7.1, P7.2): numbers that are handed in are not changed, nor what lies behind their ends, whatever is done with the answers.
func TestNumbersStay(t *testing.T) {
	for _, two := range pairs() {
		a, wholeA := roomy(two[0])
		b, wholeB := roomy(two[1])
		wasA, wasB := slices.Clone(wholeA), slices.Clone(wholeB)
		for _, n := range answersOf(a, b) {
			scribble(n)
		}
		if !slices.Equal(wholeA, wasA) || !slices.Equal(wholeB, wasB) {
			t.Errorf("%d became %d, and %d became %d", wasA, wholeA, wasB, wholeB)
		}
	}
}

// TestAnswersStay (P7.1): an answer stays when the numbers are changed behind it, and when another answer is.
func TestAnswersStay(t *testing.T) {
	for _, two := range pairs() {
		for place := range answersOf(two[0], two[1]) {
			a, b := slices.Clone(two[0]), slices.Clone(two[1])
			mine, others := answersOf(a, b), answersOf(a, b)
			was := slices.Clone(mine[place])
			scribble(a)
			scribble(b)
			for k := range mine {
				scribble(others[k])
				if k != place {
					scribble(mine[k])
				}
			}
			if !slices.Equal(mine[place], was) {
				t.Errorf("%d and %d: answer %d, %d, became %d", two[0], two[1], place, was, mine[place])
			}
		}
	}
}

// TestOneNumberTwice (P7.1, P7.2): the very same memory may be handed in as both numbers.
func TestOneNumberTwice(t *testing.T) {
	for _, n := range numbers() {
		same := slices.Clone(n)
		see(t, "Add", answered(nat.Add(same, same)), answered(nat.Add(n, slices.Clone(n))))
		see(t, "Mul", answered(nat.Mul(same, same)), answered(nat.Mul(n, slices.Clone(n))))
		if got := nat.Cmp(same, same); got != 0 || !slices.Equal(same, n) {
			t.Errorf("Cmp of %d, twice: %d", n, got)
		}
	}
}

// TestNothingIsKept (P7.1, P7.2): numbers that no number is handed in for are new memory each time, and say nothing of what was done to those before them.
func TestNothingIsKept(t *testing.T) {
	for _, x := range []uint64{0, 1, 2, 1 << 32, 1<<64 - 1} {
		first, second := nat.From(x), nat.From(x)
		scribble(first)
		see(t, "From", answer{n: nat.From(x)}, answer{n: second})
		if great(second).Uint64() != x {
			t.Errorf("From(%d) became %d", x, second)
		}
	}
	for n := range api.MaxFib + 1 {
		first, second := answered(nat.Fib(n)), answered(nat.Fib(n))
		was := slices.Clone(second.n)
		scribble(first.n)
		see(t, "Fib, answered ahead", second, answer{n: was})
		see(t, "Fib, asked again", answered(nat.Fib(n)), answer{n: was})
	}
}

// TestRoomBehind (P7.1, P7.2): what lies behind a number's end is no part of it.
func TestRoomBehind(t *testing.T) {
	for _, two := range pairs() {
		a, _ := roomy(two[0])
		b, _ := roomy(two[1])
		wide, tight := answersOf(a, b), answersOf(slices.Clone(two[0]), slices.Clone(two[1]))
		if !slices.EqualFunc(wide, tight, slices.Equal[api.Nat]) {
			t.Errorf("%d and %d: %d, not %d", a, b, wide, tight)
		}
		if nat.May(a) != nat.May(two[0]) || nat.Text(a) != nat.Text(two[0]) || nat.Cmp(a, b) != nat.Cmp(two[0], two[1]) {
			t.Errorf("%d and %d are not told as they are", a, b)
		}
	}
}
