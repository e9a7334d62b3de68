package draw_test

import (
	"slices"
	"testing"

	"joinery/draw"
)

// roomy is the list at the front of greater memory, with what lies behind its end, so that a write there can be seen.
func roomy[E any](l []E, behind ...E) (piece, whole []E) {
	whole = append(slices.Clone(l), behind...)
	return whole[:len(l)], whole
}

// scribble writes all over a list, and behind its end as far as its memory goes.
func scribble[E any](l []E, over E) {
	l = l[:cap(l)]
	for k := range l {
		l[k] = over
	}
}

// TestRowIsNotKept (P8.2): numbers that were handed in may be written over at any time: draws, and their copies, say what they said.
func TestRowIsNotKept(t *testing.T) {
	for _, row := range shortRows() {
		for count := range len(row) + 1 {
			l, _ := roomy(row, 777, 778)
			d := draw.New(l...)
			early := d.Copy()
			for k := range count {
				seeNext(t, d, keyAt(k), row[k])
			}
			scribble(l, 99)
			seeRest(t, d.Copy(), row[count:])
			seeRest(t, d, row[count:])
			seeRest(t, early, row)
		}
	}
}

// TestRowStays (P8.2): numbers that were handed in are not changed, nor what lies behind their end, whatever is done.
func TestRowStays(t *testing.T) {
	for _, row := range rows() {
		l, whole := roomy(row, 777, 778)
		was := slices.Clone(whole)
		d := draw.New(l...)
		c := d.Copy()
		scribble(d.Many(keys()...), 99)
		scribble(c.Many(keys()...), 98)
		seeLeft(t, d, max(0, len(row)-len(keys())))
		if !slices.Equal(whole, was) {
			t.Errorf("%d became %d", was, whole)
		}
	}
}

// TestOneRowTwice (P8.1): draws of the very same numbers do not take from one another.
func TestOneRowTwice(t *testing.T) {
	for _, row := range rows() {
		one, other := draw.New(row...), draw.New(row...)
		seeRest(t, one, row)
		seeRest(t, other, row)
	}
}

// TestKeysStay (P8.1): keys that were handed in are not changed, nor what lies behind their end; written over behind the call, they say nothing any more.
func TestKeysStay(t *testing.T) {
	for _, row := range rows() {
		for count := range min(3, len(row)+1) {
			l, whole := roomy(keys(), 777, 778)
			was := slices.Clone(whole)
			d, m := taken(row, count), model{row[count:]}
			answer, want := d.Many(l...), m.many(l)
			if !slices.Equal(whole, was) {
				t.Errorf("%d became %d", was, whole)
			}
			scribble(l, 5)
			if !slices.Equal(answer, want) {
				t.Errorf("of %d: %d became %d", row, want, answer)
			}
			seeRest(t, d, m.row)
		}
	}
}

// TestAnswersStay (P8.1): what Many answers is its own: written over, it changes neither draws nor copies nor other answers, and no later call changes it.
func TestAnswersStay(t *testing.T) {
	for _, row := range shortRows() {
		for _, asked := range []int{1, len(row) / 2, len(row), len(row) + 3} {
			var l []int64
			for k := range asked {
				l = append(l, keyAt(k))
			}
			d, m := draw.New(row...), model{row}
			c := d.Copy()
			mine, copied := d.Many(l...), c.Many(l...)
			want := m.many(l)
			late, lateWant := d.Copy(), m
			scribble(copied, 99)
			seeMany(t, d, l, m.many(l))
			scribble(c.Many(l...), 98)
			if !slices.Equal(mine, want) {
				t.Errorf("of %d: %d became %d", row, want, mine)
			}
			scribble(mine, 97)
			seeRest(t, d, m.row)
			seeRest(t, c, m.row)
			seeRest(t, late, lateWant.row)
		}
	}
}
