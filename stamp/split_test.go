package stamp_test

import (
	"bytes"
	"math"
	"slices"
	"testing"

	"icehouse/api"
	"icehouse/stamp"
)

// parts is the bytes in sectors, cut one by one, as the chapter's words say it.
func parts(generation uint64, position uint32, b []byte) []api.Block {
	var out []api.Block
	for len(b) > 48 {
		out = append(out, sector(generation, position, 48, 0, b[:48]...))
		b = b[48:]
		position++
	}
	return append(out, sector(generation, position, uint16(len(b)), 0, b...))
}

// splits fails, unless Split answers those sectors.
func splits(t *testing.T, generation uint64, position uint32, b []byte, want []api.Block) {
	t.Helper()
	got, err := stamp.Split(generation, position, b)
	if err != api.OK || !slices.Equal(got, want) {
		t.Errorf("Split(%d, %d, %d bytes): error %d, % x, not % x", generation, position, len(b), err, got, want)
	}
}

// notSplit fails, unless Split answers ErrArg, and no sectors.
func notSplit(t *testing.T, generation uint64, position uint32, b []byte) {
	t.Helper()
	if got, err := stamp.Split(generation, position, b); err != api.ErrArg || len(got) != 0 {
		t.Errorf("Split(%d, %d, %d bytes): error %d, %d sectors", generation, position, len(b), err, len(got))
	}
}

// joins fails, unless Join answers those bytes.
func joins(t *testing.T, what string, l []api.Block, want []byte) {
	t.Helper()
	if got, err := stamp.Join(l); err != api.OK || !bytes.Equal(got, want) {
		t.Errorf("Join, %s: error %d, % x, not % x", what, err, got, want)
	}
}

// apart fails, unless Join answers ErrStamp, and no bytes.
func apart(t *testing.T, what string, l ...api.Block) {
	t.Helper()
	if got, err := stamp.Join(l); err != api.ErrStamp || len(got) != 0 {
		t.Errorf("Join, %s: error %d, % x", what, err, got)
	}
}

// full is a sector in which all of the payload is meant.
func full(generation uint64, position uint32) api.Block {
	return sector(generation, position, 48, 0, run(48)...)
}

// P5.2: how many sectors bytes fill.
func TestSectors(t *testing.T) {
	for n, want := range map[int]int{
		0: 1, 1: 1, 47: 1, 48: 1, 49: 2, 95: 2, 96: 2, 97: 3, 144: 3, 145: 4, 4800: 100, 4801: 101,
		math.MaxInt32: 44739243, 1 << 32: 89478486,
	} {
		if got := stamp.Sectors(n); got != want {
			t.Errorf("Sectors(%d): %d, not %d", n, got, want)
		}
	}
	full, count := 0, 1
	for n := 1; n < 2000; n++ {
		if full++; full > 48 {
			full, count = 1, count+1
		}
		if got := stamp.Sectors(n); got != count {
			t.Errorf("Sectors(%d): %d, not %d", n, got, count)
		}
	}
}

// P5.2: numbers below 0, and the greatest that there are.
func TestSectorsEdges(t *testing.T) {
	for _, n := range []int{-1, -2, -47, -48, -49, -96, math.MinInt32, math.MinInt + 1, math.MinInt} {
		if got := stamp.Sectors(n); got != 0 {
			t.Errorf("Sectors(%d): %d", n, got)
		}
	}
	for _, n := range []int{math.MaxInt, math.MaxInt - 1, math.MaxInt - 46, math.MaxInt - 47, math.MaxInt - 48} {
		want := n / 48
		if n%48 > 0 {
			want++
		}
		if got := stamp.Sectors(n); got != want {
			t.Errorf("Sectors(%d): %d, not %d", n, got, want)
		}
	}
}

// P5.2: one sector of fill 0 for no bytes, and nothing empty behind bytes that fill their sectors.
func TestSplitByHand(t *testing.T) {
	b := run(97)
	splits(t, 7, 3, nil, []api.Block{sector(7, 3, 0, 0)})
	splits(t, 7, 3, []byte{}, []api.Block{sector(7, 3, 0, 0)})
	splits(t, 7, 3, b[:1], []api.Block{sector(7, 3, 1, 0, 1)})
	splits(t, 7, 3, b[:48], []api.Block{full(7, 3)})
	splits(t, 7, 3, b[:49], []api.Block{full(7, 3), sector(7, 4, 1, 0, 49)})
	splits(t, 7, 3, b[:96], []api.Block{full(7, 3), sector(7, 4, 48, 0, b[48:96]...)})
	splits(t, 7, 3, b, []api.Block{full(7, 3), sector(7, 4, 48, 0, b[48:96]...), sector(7, 5, 1, 0, 97)})
}

// P5.2: bytes of many lengths, noughts among them, in many generations.
func TestSplitOfMany(t *testing.T) {
	for n := range 400 {
		for _, b := range [][]byte{run(n), make([]byte, n)} {
			for _, generation := range []uint64{1, 0x0102030405060708, math.MaxUint64} {
				for _, position := range []uint32{0, 1, 254, 65535, 1 << 31, math.MaxUint32 - 20} {
					want := parts(generation, position, b)
					splits(t, generation, position, b, want)
					joins(t, "of Split", want, b)
					if got := stamp.Sectors(n); got != len(want) {
						t.Errorf("Sectors(%d): %d, not %d", n, got, len(want))
					}
				}
			}
		}
	}
}

// P5.2: the last sector may have the highest position there is, and not one more.
func TestSplitToTheLastPosition(t *testing.T) {
	for n, count := range map[int]uint32{0: 1, 1: 1, 47: 1, 48: 1, 49: 2, 96: 2, 97: 3, 480: 10, 481: 11} {
		b := run(n)
		last := math.MaxUint32 - count + 1
		splits(t, 5, last, b, parts(5, last, b))
		joins(t, "to the last position", parts(5, last, b), b)
		if count > 1 {
			notSplit(t, 5, last+1, b)
			notSplit(t, 5, math.MaxUint32, b)
		}
	}
}

// P5.2: generation 0, for itself and where the position is refused too.
func TestSplitRefusesGeneration0(t *testing.T) {
	for _, n := range []int{0, 1, 48, 49, 97} {
		for _, position := range []uint32{0, 1, math.MaxUint32 - 2, math.MaxUint32} {
			notSplit(t, 0, position, run(n))
		}
	}
	notSplit(t, 0, 0, nil)
}

// P5.2, R3: what is split is neither changed nor kept, nor the room behind it taken for a part; sectors are new each time.
func TestSplitKeepsNothing(t *testing.T) {
	room := run(100)
	first, _ := stamp.Split(5, 6, room[:60])
	second, _ := stamp.Split(5, 6, room[:60])
	want := parts(5, 6, run(60))
	if !bytes.Equal(room, run(100)) {
		t.Errorf("changed: % x", room)
	}
	clear(room)
	if !slices.Equal(first, want) || !slices.Equal(second, want) {
		t.Errorf("shared with what was handed in: % x, % x", first, second)
	}
	clear(first)
	if !slices.Equal(second, want) {
		t.Errorf("shared with another answer: % x", second)
	}
}

// P5.2: of no sectors there are no bytes, and that is an error.
func TestJoinOfNone(t *testing.T) {
	apart(t, "nil")
	apart(t, "an empty list", []api.Block{}...)
	apart(t, "a list of which none is left", []api.Block{full(1, 1)}[:0]...)
}

// P5.2: of one sector that is stamped it is what is meant, whatever its stamp says.
func TestJoinOfOne(t *testing.T) {
	for _, n := range []int{0, 1, 47, 48} {
		for _, generation := range []uint64{1, math.MaxUint64} {
			for _, position := range []uint32{0, 5, math.MaxUint32} {
				joins(t, "one", []api.Block{sector(generation, position, uint16(n), 0, run(n)...)}, run(n))
			}
		}
	}
}

// P5.2: the last one alone may be filled less, down to nothing.
func TestJoinOfALastOne(t *testing.T) {
	for n := range 49 {
		l := []api.Block{full(5, 6), full(5, 7), sector(5, 8, uint16(n), 0, run(n)...)}
		joins(t, "a last one", l, slices.Concat(run(48), run(48), run(n)))
	}
}

// P5.2: one that is filled less and is not the last.
func TestJoinOfFillsBelow(t *testing.T) {
	for n := range 48 {
		less := func(position uint32) api.Block { return sector(5, position, uint16(n), 0, run(n)...) }
		apart(t, "the first of two", less(6), full(5, 7))
		apart(t, "the first of three", less(6), full(5, 7), full(5, 8))
		apart(t, "the middle", full(5, 6), less(7), full(5, 8))
		apart(t, "ahead of an empty one", full(5, 6), less(7), sector(5, 8, 0, 0))
		apart(t, "two of them", full(5, 6), less(7), less(8))
	}
}

// P5.2: one that is not stamped, wherever it stands, and for whatever cause.
func TestJoinOfUnstamped(t *testing.T) {
	for at := range 4 {
		p := uint32(6 + at)
		for _, wrong := range []api.Block{
			{},
			sector(0, p, 48, 0, run(48)...),
			sector(5, p, 49, 0, run(48)...),
			sector(5, p, 48, 1, run(48)...),
			sector(5, p, 47, 0, run(48)...),
		} {
			l := []api.Block{full(5, 6), full(5, 7), full(5, 8), full(5, 9)}
			l[at] = wrong
			apart(t, "one that is not stamped", l...)
			apart(t, "that one alone", wrong)
		}
	}
	apart(t, "all of noughts", make([]api.Block, 3)...)
	apart(t, "all of generation 0", sector(0, 6, 48, 0, run(48)...), sector(0, 7, 48, 0, run(48)...))
}

// P5.2: one of another generation, elder or newer, or all but the first.
func TestJoinOfGenerations(t *testing.T) {
	for _, other := range []uint64{1, 4, 6, 5 | 1<<32, 5 | 1<<63, math.MaxUint64} {
		for at := range 4 {
			l := []api.Block{full(5, 6), full(5, 7), full(5, 8), full(5, 9)}
			l[at] = full(other, uint32(6+at))
			apart(t, "one of another generation", l...)
		}
		apart(t, "all but the first", full(5, 6), full(other, 7), full(other, 8))
		apart(t, "an empty one at last", full(5, 6), sector(other, 7, 0, 0))
	}
	apart(t, "rising generations", full(5, 6), full(6, 7), full(7, 8))
}

// P5.2: positions that do not rise by one: that stay, fall, leave one out, or go round.
func TestJoinOfPositions(t *testing.T) {
	for _, l := range [][]uint32{
		{6, 6}, {6, 5}, {6, 8}, {6, 0}, {0, 0}, {0, 2}, {1, 0}, {0, math.MaxUint32}, {6, 7 + 1<<16}, {6, 7 | 1<<31},
		{6, 7, 7}, {6, 7, 9}, {6, 7, 6}, {6, 6, 7}, {6, 8, 9}, {6, 8, 7}, {7, 6, 8}, {8, 7, 6}, {6, 7, 8, 6},
		{math.MaxUint32, 0}, {math.MaxUint32 - 1, math.MaxUint32, 0}, {math.MaxUint32, 0, 1}, {math.MaxUint32, math.MaxUint32},
	} {
		var sectors []api.Block
		for _, position := range l {
			sectors = append(sectors, full(5, position))
		}
		if got, err := stamp.Join(sectors); err != api.ErrStamp || len(got) != 0 {
			t.Errorf("Join of positions %v: error %d, %d bytes", l, err, len(got))
		}
	}
	joins(t, "up to the highest", []api.Block{full(5, math.MaxUint32-1), full(5, math.MaxUint32)}, slices.Concat(run(48), run(48)))
	joins(t, "from 0 on", []api.Block{full(5, 0), full(5, 1)}, slices.Concat(run(48), run(48)))
}

// P5.2, R3: sectors are neither changed nor kept; bytes are new each time.
func TestJoinKeepsNothing(t *testing.T) {
	room := append(parts(5, 6, run(100)), full(5, 9))
	l := room[:3]
	first, _ := stamp.Join(l)
	second, _ := stamp.Join(l)
	if !slices.Equal(room, append(parts(5, 6, run(100)), full(5, 9))) {
		t.Errorf("changed: % x", room)
	}
	clear(room)
	if !bytes.Equal(first, run(100)) || !bytes.Equal(second, run(100)) {
		t.Errorf("shared with what was handed in: % x, % x", first, second)
	}
	clear(first[:cap(first)])
	if !bytes.Equal(second, run(100)) {
		t.Errorf("shared with another answer: % x", second)
	}
}
