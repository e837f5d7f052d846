package stamp_test

import (
	"bytes"
	"math"
	"slices"
	"testing"

	"icehouse/api"
	"icehouse/stamp"
)

// split is what Split answers, which must not fail.
func split(t *testing.T, generation uint64, position uint32, b []byte) []api.Block {
	t.Helper()
	l, err := stamp.Split(generation, position, b)
	if err != api.OK {
		t.Fatalf("Split(%d, %d, %d bytes): error %d", generation, position, len(b), err)
	}
	return l
}

// lengths are those at which sectors begin or end, and some between.
func lengths() []int {
	return []int{0, 1, 47, 48, 49, 95, 96, 97, 130, 143, 144, 145, 192, 240}
}

// P5.3: Join of Split is the bytes.
func TestJoinOfSplit(t *testing.T) {
	for n := range 1000 {
		for _, b := range [][]byte{run(n), make([]byte, n), bytes.Repeat([]byte{255}, n)} {
			joins(t, "of Split", split(t, uint64(n+1), uint32(n), b), b)
		}
	}
	joins(t, "of many", split(t, 1, 0, run(1<<20)), run(1<<20))
}

// P5.3: with one left out from between; the last one can be missed by no one, and of the first the others know nothing: they are what Split makes of the rest.
func TestJoinOfOneLeftOut(t *testing.T) {
	for _, n := range lengths() {
		b := run(n)
		l := split(t, 5, 6, b)
		for at := 1; at < len(l)-1; at++ {
			apart(t, "one left out", slices.Delete(slices.Clone(l), at, at+1)...)
		}
		if len(l) == 1 {
			apart(t, "the only one left out", l[:0]...)
			continue
		}
		joins(t, "the last left out", l[:len(l)-1], b[:48*(len(l)-1)])
		joins(t, "the first left out", l[1:], b[48:])
		if !slices.Equal(l[1:], split(t, 5, 7, b[48:])) {
			t.Errorf("of %d bytes: the first left out is not Split of the rest", n)
		}
	}
}

// P5.3: with two that changed places, or one that was put elsewhere, or stands twice.
func TestJoinOfChangedPlaces(t *testing.T) {
	for _, n := range lengths() {
		l := split(t, 5, 6, run(n))
		for i := range l {
			for j := range i {
				changed := slices.Clone(l)
				changed[i], changed[j] = changed[j], changed[i]
				apart(t, "changed places", changed...)
				moved := slices.Insert(slices.Delete(slices.Clone(l), i, i+1), j, l[i])
				apart(t, "one put ahead", moved...)
			}
			apart(t, "one that stands twice", slices.Insert(slices.Clone(l), i, l[i])...)
		}
	}
}

// P5.3: with one of another generation at the same place, as an elder segment left it behind.
func TestJoinOfElderSectors(t *testing.T) {
	for _, n := range lengths() {
		if n < 49 {
			continue
		}
		for _, elder := range []uint64{1, 4, 6, math.MaxUint64} {
			l, left := split(t, 5, 6, run(n)), split(t, elder, 6, run(n))
			for i := range l {
				mixed := slices.Clone(l)
				mixed[i] = left[i]
				apart(t, "one of another generation", mixed...)
				if i > 0 {
					apart(t, "all from one on", slices.Concat(l[:i], left[i:])...)
				}
			}
		}
	}
}

// P5.3: with any bit of the stamps turned; but for the last one's fill, as noughts may be meant or not.
func TestJoinOfTurnedBits(t *testing.T) {
	l := split(t, 5, 6, run(130))
	for i := range l {
		for bit := range 8 * 16 {
			turned := slices.Clone(l)
			turned[i][bit/8] ^= 1 << (bit % 8)
			if i == len(l)-1 && bit/8 == 13 && turned[i][13] > 130-96 && turned[i][13] <= 48 {
				joins(t, "more noughts are meant", turned, append(run(130), make([]byte, int(turned[i][13])-34)...))
				continue
			}
			apart(t, "a bit turned", turned...)
		}
	}
}

// piece is a sector, and what it says, as far as it is stamped.
type piece struct {
	block      api.Block
	stamped    bool
	generation uint64
	position   uint32
	meant      []byte
}

// pieces are sectors of few generations, positions and fills, and some that are not stamped.
func pieces() []piece {
	out := []piece{{}, {block: sector(0, 6, 48, 0, run(48)...)}, {block: sector(1, 6, 49, 0, run(48)...)}}
	for _, generation := range []uint64{1, 2} {
		for _, position := range []uint32{0, 1, 2, math.MaxUint32 - 1, math.MaxUint32} {
			for _, fill := range []int{0, 47, 48} {
				b := sector(generation, position, uint16(fill), 0, run(fill)...)
				out = append(out, piece{b, true, generation, position, run(fill)})
			}
		}
	}
	return out
}

// joined is what Join answers of those pieces, as the chapter's words say it.
func joined(l []piece) ([]byte, api.Errno) {
	if len(l) == 0 {
		return nil, api.ErrStamp
	}
	var out []byte
	for i, p := range l {
		switch {
		case !p.stamped, p.generation != l[0].generation, i < len(l)-1 && len(p.meant) < 48:
			return nil, api.ErrStamp
		case i > 0 && uint64(p.position) != uint64(l[i-1].position)+1:
			return nil, api.ErrStamp
		}
		out = append(out, p.meant...)
	}
	return out, api.OK
}

// lists are all lists of n of those pieces.
func lists(all []piece, n int) [][]piece {
	if n == 0 {
		return [][]piece{nil}
	}
	var out [][]piece
	for _, l := range lists(all, n-1) {
		for _, p := range all {
			out = append(out, append(slices.Clone(l), p))
		}
	}
	return out
}

// P5.2: all lists of up to three sectors.
func TestJoinOfAllLists(t *testing.T) {
	whole := 0
	for n := range 4 {
		for _, l := range lists(pieces(), n) {
			var sectors []api.Block
			for _, p := range l {
				sectors = append(sectors, p.block)
			}
			want, wantErr := joined(l)
			got, err := stamp.Join(sectors)
			if err != wantErr || !bytes.Equal(got, want) {
				t.Fatalf("Join of %d: error %d, not %d, %d bytes, not %d: % x", n, err, wantErr, len(got), len(want), sectors)
			}
			if err == api.OK {
				whole++
			}
		}
	}
	if whole < 50 {
		t.Errorf("only %d lists are whole", whole)
	}
}
