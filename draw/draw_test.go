package draw_test

import (
	"math"
	"slices"
	"testing"

	"joinery/draw"
)

// own is what a key has by itself, by the words of layer 1's chapter, so that the tests do not lean on that package.
func own(key int64) uint64 {
	x := uint64(key) + 0x9e3779b97f4a7c15
	x = x ^ (x >> 30)
	x = x * 0xbf58476d1ce4e5b9
	x = x ^ (x >> 27)
	x = x * 0x94d049bb133111eb
	x = x ^ (x >> 31)
	return x
}

// keys are the least and the greatest key, those around 0, others of either sign, and the one whose own number is 0; no two of them are the same.
func keys() []int64 {
	return []int64{
		math.MinInt64, math.MinInt64 + 1, -1 << 62, -7046029254386353131, -1 << 32, -2, -1,
		0, 1, 2, 7, 1 << 32, 1 << 62, 7046029254386353131, math.MaxInt64 - 1, math.MaxInt64,
	}
}

// keyAt is a key for each place, which goes round.
func keyAt(place int) int64 { return keys()[place%len(keys())] }

// spread is a row of so many numbers from all over the range.
func spread(count int) []uint64 {
	l := make([]uint64, count)
	x := uint64(1)
	for k := range l {
		x = x*6364136223846793005 + 1442695040888963407
		l[k] = x
	}
	return l
}

// rows are rows of numbers: none, one, the same ones, those that rise and fall, the least and the greatest, keys' own, and many.
func rows() [][]uint64 {
	return [][]uint64{
		nil, {}, {0}, {5}, {math.MaxUint64}, {5, 6}, {6, 5}, {0, math.MaxUint64, 0}, {math.MaxUint64, 1, 0},
		{9, 9, 1}, {4, 4, 4, 4}, {0, 0, 0}, {1, 2, 3, 2, 1}, {own(0), own(1), own(0)},
		{1 << 63, 1<<63 - 1, 1<<63 + 1, 1 << 32, 1<<32 - 1}, spread(100), spread(3000),
	}
}

// shortRows are those that may be gone through at each of their places.
func shortRows() [][]uint64 {
	return slices.DeleteFunc(rows(), func(l []uint64) bool { return len(l) > 100 })
}

// model is what draws are, by the chapter's words: what was not taken.
type model struct{ row []uint64 }

func (m *model) next(key int64) uint64 {
	if len(m.row) == 0 {
		return own(key)
	}
	first := m.row[0]
	m.row = m.row[1:]
	return first
}

func (m *model) many(keys []int64) []uint64 {
	var l []uint64
	for _, key := range keys {
		l = append(l, m.next(key))
	}
	return l
}

// seeLeft fails the test, unless so many were not taken; asking takes none.
func seeLeft(t *testing.T, d *draw.Draws, want int) {
	t.Helper()
	for range 2 {
		if got := d.Left(); got != want {
			t.Fatalf("Left() = %d, want %d", got, want)
		}
	}
}

// seeNext fails the test, unless that is next.
func seeNext(t *testing.T, d *draw.Draws, key int64, want uint64) {
	t.Helper()
	if got := d.Next(key); got != want {
		t.Fatalf("Next(%d) = %#x, want %#x", key, got, want)
	}
}

// seeMany fails the test, unless these are next.
func seeMany(t *testing.T, d *draw.Draws, keys []int64, want []uint64) {
	t.Helper()
	if got := d.Many(keys...); !slices.Equal(got, want) {
		t.Fatalf("Many(%d) = %#x, want %#x", keys, got, want)
	}
}

// seeRest takes what was not taken, and fails the test, unless it is that row, and nothing is left behind it.
func seeRest(t *testing.T, d *draw.Draws, row []uint64) {
	t.Helper()
	for k, want := range row {
		seeLeft(t, d, len(row)-k)
		seeNext(t, d, keyAt(k), want)
	}
	seeOwn(t, d)
}

// seeOwn fails the test, unless all was taken, and each key has its own, again and again.
func seeOwn(t *testing.T, d *draw.Draws) {
	t.Helper()
	for range 2 {
		for _, key := range keys() {
			seeLeft(t, d, 0)
			seeNext(t, d, key, own(key))
			seeNext(t, d, key, own(key))
		}
	}
	seeLeft(t, d, 0)
}

// taken are draws of a row, of which so many were taken.
func taken(row []uint64, count int) *draw.Draws {
	d := draw.New(row...)
	for k := range count {
		d.Next(keyAt(k))
	}
	return d
}

// TestExample (P8.1): as the chapter has it.
func TestExample(t *testing.T) {
	d := draw.New(5, 6)
	seeNext(t, d, 1, 5)
	seeLeft(t, d, 1)
	seeNext(t, d, 1, 6)
	seeNext(t, d, 0, 0xe220a8397b1dcdaf)
	seeNext(t, d, 0, 0xe220a8397b1dcdaf)
	seeLeft(t, d, 0)
}

// TestOwn (P8.1): what keys have by themselves, reckoned by another program: keys below 0, the least and the greatest one, and the one that has 0.
func TestOwn(t *testing.T) {
	for _, c := range []struct {
		key  int64
		want uint64
	}{
		{0, 0xe220a8397b1dcdaf},
		{1, 0x910a2dec89025cc1},
		{2, 0x975835de1c9756ce},
		{42, 0xbdd732262feb6e95},
		{-1, 0xe4d971771b652c20},
		{-2, 0xf3203e9039f4a821},
		{math.MinInt64, 0x481ec0a212a9f3db},
		{math.MaxInt64, 0x2a67d7552e039ea7},
		{7046029254386353131, 0},
	} {
		var none *draw.Draws
		for _, d := range []*draw.Draws{none, draw.New(), taken([]uint64{3}, 1)} {
			seeNext(t, d, c.key, c.want)
			seeMany(t, d, []int64{c.key, c.key}, []uint64{c.want, c.want})
		}
	}
}

// TestNew (P8.1): none was taken, also of no numbers, which are draws all the same.
func TestNew(t *testing.T) {
	for _, row := range rows() {
		d := draw.New(row...)
		if d == nil {
			t.Fatalf("New(%d): none", row)
		}
		seeLeft(t, d, len(row))
		seeRest(t, d, row)
	}
	seeOwn(t, draw.New())
}

// TestNext (P8.1): as often as there are numbers, and more often, of any keys, and of one key each time.
func TestNext(t *testing.T) {
	for _, row := range rows() {
		for from := range keys() {
			some, one := draw.New(row...), draw.New(row...)
			for k := range len(row) + 40 {
				for _, c := range []struct {
					d   *draw.Draws
					key int64
				}{{some, keyAt(from + k)}, {one, keyAt(from)}} {
					want := own(c.key)
					if k < len(row) {
						want = row[k]
					}
					seeLeft(t, c.d, max(0, len(row)-k))
					seeNext(t, c.d, c.key, want)
				}
			}
		}
	}
}

// TestMany (P8.1): of no keys, of one, of fewer than are left, of as many, of more; each of fresh draws, and of those of which some were taken.
func TestMany(t *testing.T) {
	for _, row := range shortRows() {
		for count := range len(row) + 1 {
			left := len(row) - count
			for _, asked := range []int{0, 1, left / 2, max(0, left-1), left, left + 1, left + 40} {
				var l, same []int64
				for k := range asked {
					l, same = append(l, keyAt(k)), append(same, -3)
				}
				for _, keys := range [][]int64{l, same} {
					d, m := taken(row, count), model{row[count:]}
					seeMany(t, d, keys, m.many(keys))
					seeLeft(t, d, max(0, left-asked))
					seeRest(t, d, m.row)
				}
			}
		}
	}
}

// TestManyOfNoKeys (P8.1): nothing is answered, and nothing is taken, also of none.
func TestManyOfNoKeys(t *testing.T) {
	d := draw.New(7)
	for _, x := range []*draw.Draws{d, draw.New(), nil} {
		seeMany(t, x, nil, nil)
		seeMany(t, x, []int64{}, nil)
	}
	seeRest(t, d, []uint64{7})
}

// TestOneKeySeveralTimes (P8.1): a key that stands several times among others takes one each time, and behind them has its own each time.
func TestOneKeySeveralTimes(t *testing.T) {
	seeMany(t, draw.New(5, 6, 5), []int64{2, 2, -1, 2, -1, 2}, []uint64{5, 6, 5, own(2), own(-1), own(2)})
}

// TestNone (P8.1): of no draws each key has its own, and nothing becomes of them.
func TestNone(t *testing.T) {
	var none *draw.Draws
	for range 2 {
		seeOwn(t, none)
		var want []uint64
		for _, key := range keys() {
			want = append(want, own(key))
		}
		seeMany(t, none, keys(), want)
		if c := none.Copy(); c != nil {
			t.Error("a copy of no draws is some")
		}
	}
}

// TestCopy (P8.1): of fresh draws, of such of which some were taken, and all: whichever is asked first, each has what was not taken.
func TestCopy(t *testing.T) {
	for _, row := range shortRows() {
		for count := range len(row) + 1 {
			for _, copyFirst := range []bool{false, true} {
				d := taken(row, count)
				c := d.Copy()
				if c == nil || c == d {
					t.Fatalf("a copy of draws of %d is none, or they themselves", row)
				}
				first, second := d, c
				if copyFirst {
					first, second = c, d
				}
				seeRest(t, first, row[count:])
				seeLeft(t, second, len(row)-count)
				seeRest(t, second, row[count:])
			}
		}
	}
}

// TestCopyOfMoreTaken (P8.1): draws that gave their last one, and then keys' own, are copied as such.
func TestCopyOfMoreTaken(t *testing.T) {
	d := taken([]uint64{1, 2}, 7)
	seeOwn(t, d.Copy())
	seeOwn(t, d.Copy().Copy())
	seeOwn(t, d)
}

// TestCopiesTurnAbout (P8.1): draws, a copy, and a copy of the copy are asked by turns, more and more of each.
func TestCopiesTurnAbout(t *testing.T) {
	row := []uint64{8, 1, 1, 9, 0, 4}
	for _, order := range [][]int{{0, 1, 2}, {0, 2, 1}, {1, 0, 2}, {1, 2, 0}, {2, 0, 1}, {2, 1, 0}} {
		d := taken(row, 1)
		c := d.Copy()
		seeNext(t, c, 3, 1)
		cc := c.Copy()
		all := []*draw.Draws{d, c, cc}
		want := []model{{row[1:]}, {row[2:]}, {row[2:]}}
		for round := range len(row) + 2 {
			for _, k := range order {
				seeLeft(t, all[k], len(want[k].row))
				seeNext(t, all[k], keyAt(round), want[k].next(keyAt(round)))
			}
		}
	}
}
