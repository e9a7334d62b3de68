package draw_test

import (
	"slices"
	"testing"

	"joinery/draw"
)

// TestEachOnce (P8.2): of as many numbers as there are, each is taken once, in order, whatever keys are asked.
func TestEachOnce(t *testing.T) {
	for _, row := range rows() {
		for from := range keys() {
			d := draw.New(row...)
			var got []uint64
			for k := 0; d.Left() > 0; k++ {
				got = append(got, d.Next(keyAt(from+k*k)))
			}
			if !slices.Equal(got, row) {
				t.Errorf("of %d were taken %d", row, got)
			}
		}
	}
}

// TestManyIsNext (P8.2): at once, in pieces, or one by one: it is the same.
func TestManyIsNext(t *testing.T) {
	for _, row := range shortRows() {
		var l []int64
		for k := range len(row) + 20 {
			l = append(l, keyAt(k*3))
		}
		one := draw.New(row...)
		var want []uint64
		for _, key := range l {
			want = append(want, one.Next(key))
		}
		seeMany(t, draw.New(row...), l, want)
		for piece := 1; piece <= len(l); piece += 1 + piece/3 {
			d := draw.New(row...)
			var got []uint64
			for part := range slices.Chunk(l, piece) {
				got = append(got, d.Many(part...)...)
			}
			if !slices.Equal(got, want) {
				t.Errorf("of %d, in pieces of %d: %d, not %d", row, piece, got, want)
			}
		}
	}
}

// TestSameKeySame (P8.2): behind the numbers, and without any, the same key has the same, whatever was asked in between; another key has another.
func TestSameKeySame(t *testing.T) {
	for _, d := range []*draw.Draws{nil, draw.New(), taken(spread(5), 5), taken(spread(5), 9).Copy()} {
		of := map[uint64]int64{}
		for round := range 3 {
			for k := range keys() {
				key := keyAt(k + 5*round)
				x := d.Next(key)
				if other, is := of[x]; is != (round > 0) || is && other != key {
					t.Errorf("Next(%d) = %#x, as of %d", key, x, other)
				}
				of[x] = key
			}
		}
	}
}

// chance is a row of numbers that is the same in each run.
type chance uint64

// below is a number from 0 to most - 1.
func (c *chance) below(most int) int {
	*c = *c*6364136223846793005 + 1442695040888963407
	return int(uint64(*c) >> 33 % uint64(most))
}

// keysOf are so many keys, whichever.
func (c *chance) keysOf(count int) []int64 {
	var l []int64
	for range count {
		l = append(l, keyAt(c.below(len(keys()))))
	}
	return l
}

// TestOwnWays (P8.1, P8.2): draws, their copies, and copies of those, asked in any order, each go their own way; no draws among them.
func TestOwnWays(t *testing.T) {
	c := chance(8)
	for _, row := range shortRows() {
		for range 30 {
			all, want := []*draw.Draws{draw.New(row...), nil}, []*model{{row}, {}}
			for range 60 {
				k := c.below(len(all))
				switch c.below(8) {
				case 0:
					all, want = append(all, all[k].Copy()), append(want, &model{want[k].row})
				case 1:
					keys := c.keysOf(c.below(2 + len(row)/2))
					seeMany(t, all[k], keys, want[k].many(keys))
				default:
					key := keyAt(c.below(len(keys())))
					seeNext(t, all[k], key, want[k].next(key))
				}
				for n := range all {
					seeLeft(t, all[n], len(want[n].row))
				}
			}
			for n := range all {
				seeRest(t, all[n], want[n].row)
			}
		}
	}
}
