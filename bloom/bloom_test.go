package bloom_test

import (
	"bytes"
	"math"
	"testing"

	"icehouse/api"
	"icehouse/bloom"
)

// is fails, unless the error is that one.
func is(t *testing.T, what string, got, want api.Errno) {
	t.Helper()
	if got != want {
		t.Fatalf("%s: error %d, not %d", what, got, want)
	}
}

// filter is a new filter, to which those hashes were added.
func filter(t *testing.T, size int, hashes ...uint64) *bloom.Filter {
	t.Helper()
	f, err := bloom.New(size)
	is(t, "New", err, api.OK)
	if f == nil {
		t.Fatalf("New(%d): no filter", size)
	}
	for _, h := range hashes {
		is(t, "Add", f.Add(h), api.OK)
	}
	return f
}

// whole is the bytes of a filter of so many bits of which just those are 1, as the chapter says them.
func whole(size int, ones ...int) []byte {
	out := []byte{byte(size >> 24), byte(size >> 16), byte(size >> 8), byte(size)}
	out = append(out, make([]byte, size/8)...)
	for _, n := range ones {
		out[4+n/8] |= []byte{128, 64, 32, 16, 8, 4, 2, 1}[n%8]
	}
	return out
}

// ones fails, unless just those bits of a filter of so many are 1.
func ones(t *testing.T, what string, f *bloom.Filter, size int, want ...int) {
	t.Helper()
	if got := f.Bits(); got != size {
		t.Errorf("%s: %d bits, not %d", what, got, size)
	}
	if got := f.Set(); got != len(want) {
		t.Errorf("%s: %d bits set, not %d", what, got, len(want))
	}
	if got := f.Bytes(); !bytes.Equal(got, whole(size, want...)) {
		t.Errorf("%s: bytes % x, not % x", what, got, whole(size, want...))
	}
}

// may fails, unless May tells that of the hash.
func may(t *testing.T, what string, f *bloom.Filter, h uint64, want bool) {
	t.Helper()
	if got := f.May(h); got != want {
		t.Errorf("%s: May(%x): %t", what, h, got)
	}
}

// P4.1, P4.2, P4.3, P4.4: the chapter's examples.
func TestExamples(t *testing.T) {
	f := filter(t, 16)
	may(t, "of a new one", f, 0, false)
	is(t, "Add", f.Add(0), api.OK)
	may(t, "added", f, 0, true)
	if got := f.Set(); got != 4 {
		t.Errorf("Set: %d", got)
	}
	if got := f.Bytes(); !bytes.Equal(got, []byte{0, 0, 0, 0x10, 0xF0, 0}) {
		t.Errorf("Bytes: % x", got)
	}
	for _, n := range []int{7, 12, 65544} {
		refused(t, n)
	}
	g := of(t, 0, 0, 0, 8, 1)
	if got := g.Set(); got != 1 {
		t.Errorf("Set of 01: %d", got)
	}
	wrong(t, api.ErrShort, 0, 0, 0)
	wrong(t, api.ErrFilter, 0, 0, 0, 8)
	wrong(t, api.ErrFilter, 0, 0, 0, 7, 1)
}

// refused fails, unless New refuses that number, and answers no filter.
func refused(t *testing.T, size int) {
	t.Helper()
	if f, err := bloom.New(size); f != nil || err != api.ErrArg {
		t.Errorf("New(%d): %v, error %d", size, f != nil, err)
	}
}

// P4.1: the least and the most bits, all 0.
func TestNewEdges(t *testing.T) {
	for _, n := range []int{8, 16, 24, 1024, 65528, 65536} {
		ones(t, "of a new one", filter(t, n), n)
	}
	for _, n := range []int{0, 1, 4, 7, 9, 12, 15, 17, 1023, 65529, 65535, 65537, 65544, 131072} {
		refused(t, n)
	}
}

// P4.1: numbers below 0, and those that are right in their lowest bits alone.
func TestNewOfWrongNumbers(t *testing.T) {
	for _, n := range []int{-1, -4, -7, -8, -16, -1024, -65528, -65536, math.MinInt16, math.MinInt32, math.MinInt} {
		refused(t, n)
	}
	for _, n := range []int{1 << 17, 1<<31 + 8, 1 << 32, 1<<32 + 8, 1<<32 + 65536, 8 - 1<<32, 1<<62 + 16, math.MaxInt - 7, math.MaxInt} {
		refused(t, n)
	}
}

// P4.1: of all small numbers just the multiples of 8 are taken, up to the limit.
func TestNewOfAllNumbers(t *testing.T) {
	for n := -100; n < 66000; n++ {
		f, err := bloom.New(n)
		good := n >= 8 && n <= 65536 && n%8 == 0
		switch {
		case good && (err != api.OK || f.Bits() != n):
			t.Errorf("New(%d): %d bits, error %d", n, f.Bits(), err)
		case !good && (err != api.ErrArg || f != nil):
			t.Errorf("New(%d): not refused, error %d", n, err)
		}
	}
}

// P4.1: filters have nothing in common.
func TestNewIsNew(t *testing.T) {
	f, g := filter(t, 16), filter(t, 16)
	is(t, "Add", f.Add(0), api.OK)
	ones(t, "the other one", g, 16)
	ones(t, "of a later one", filter(t, 16), 16)
}

// P4.2: the bits of a hash are its four probes, the first one at its lowest bits, the others odd steps behind.
func TestAddByHand(t *testing.T) {
	for _, c := range []struct {
		h    uint64
		size int
		ones []int
	}{
		{0, 8, []int{0, 1, 2, 3}},
		{5, 8, []int{5, 6, 7, 0}},
		{5, 16, []int{5, 6, 7, 8}},
		{15, 16, []int{15, 0, 1, 2}},
		{3 << 32, 8, []int{0, 3, 6, 1}},
		{2 << 32, 8, []int{0, 3, 6, 1}},
		{7<<32 | 100, 1000, []int{100, 107, 114, 121}},
		{6<<32 | 100, 1000, []int{100, 107, 114, 121}},
		{65535, 65536, []int{65535, 0, 1, 2}},
		{0x4001<<32 | 65535, 65536, []int{65535, 16384, 32769, 49154}},
		{0xffffffff, 24, []int{15, 0, 1, 2}}, // 2^32 is no multiple of 24
		{math.MaxUint64, 24, []int{15, 14, 13, 12}},
	} {
		f := filter(t, c.size)
		may(t, "ahead", f, c.h, false)
		is(t, "Add", f.Add(c.h), api.OK)
		ones(t, "added", f, c.size, c.ones...)
		may(t, "behind", f, c.h, true)
	}
}

// P4.2: a hash that is added again changes nothing.
func TestAddAgain(t *testing.T) {
	f := filter(t, 40, 9, 9)
	is(t, "Add", f.Add(9), api.OK)
	ones(t, "added thrice", f, 40, 9, 10, 11, 12)
}

// P4.2: probes that meet in one bit leave it 1, whichever hash comes first.
func TestAddWhereProbesMeet(t *testing.T) {
	f := filter(t, 16, 0, 2)
	ones(t, "meeting in two", f, 16, 0, 1, 2, 3, 4, 5)
	is(t, "Add", f.Add(3<<32), api.OK)
	ones(t, "meeting in all but one", f, 16, 0, 1, 2, 3, 4, 5, 6, 9)
	ones(t, "unlike hashes, all alike", filter(t, 8, 0, 8, 1<<32, 1<<32|16), 8, 0, 1, 2, 3)
	ones(t, "all of them", filter(t, 8, 0, 2, 4), 8, 0, 1, 2, 3, 4, 5, 6, 7)
}

// P4.2: steps are odd and places a multiple of 8, so that one hash's own probes never meet, not past 2^32 either.
func TestAddMakesFour(t *testing.T) {
	for _, size := range []int{8, 16, 24, 40, 56, 1000, 65528, 65536} {
		for _, h := range hashes(200) {
			if got := filter(t, size, h).Set(); got != 4 {
				t.Errorf("%x among %d: %d bits", h, size, got)
			}
		}
	}
}

// P4.2: one bit that is 0 is enough for a no, whichever of the four it is.
func TestMayAsksAllFour(t *testing.T) {
	h := uint64(3<<32 | 1) // 1, 4, 7, 10
	for mask := range 16 {
		b := whole(16)
		for i, n := range []int{1, 4, 7, 10} {
			if mask>>i&1 == 1 {
				b = merge(b, whole(16, n))
			}
		}
		may(t, "of some of its bits", of(t, b...), h, mask == 15)
		others := merge(b, whole(16, 0, 2, 3, 5, 6, 8, 9, 11, 12, 13, 14, 15))
		may(t, "with all other bits", of(t, others...), h, mask == 15)
	}
}

// merge is the bytes of both, bit by bit.
func merge(a, b []byte) []byte {
	out := bytes.Clone(a)
	for i, x := range b {
		out[i] |= x
	}
	return out
}

// P4.2: a yes to what was not added, where all its bits are 1; asking changes nothing.
func TestMayOfOthers(t *testing.T) {
	f := filter(t, 16, 0, 4)
	may(t, "of both together", f, 2, true)
	may(t, "of one too few", f, 5, false)
	may(t, "of none", f, 8, false)
	ones(t, "asked", f, 16, 0, 1, 2, 3, 4, 5, 6, 7)
}

// P4.2, P4.3, P4.4, R4: a nil filter.
func TestNilFilter(t *testing.T) {
	var f *bloom.Filter
	for _, h := range []uint64{0, 1, math.MaxUint64} {
		is(t, "Add", f.Add(h), api.ErrNil)
		may(t, "of nil", f, h, false)
	}
	is(t, "Clear", f.Clear(), api.ErrNil)
	if f.Bits() != 0 || f.Set() != 0 || len(f.Bytes()) != 0 {
		t.Errorf("of nil: %d bits, %d set, bytes % x", f.Bits(), f.Set(), f.Bytes())
	}
}

// P4.3, R4: a nil filter on either side of Join, or on both.
func TestJoinOfNil(t *testing.T) {
	var none *bloom.Filter
	f := filter(t, 16, 1)
	is(t, "to nil", none.Join(f), api.ErrNil)
	is(t, "of nil", f.Join(nil), api.ErrNil)
	is(t, "of nil to nil", none.Join(none), api.ErrNil)
	ones(t, "behind it", f, 16, 1, 2, 3, 4)
}

// P4.3: of filters of unlike sizes neither changes.
func TestJoinOfUnlikeSizes(t *testing.T) {
	for _, sizes := range [][2]int{{8, 16}, {16, 8}, {16, 24}, {1024, 1032}, {65528, 65536}, {65536, 65528}, {8, 65536}, {65536, 8}} {
		f, g := filter(t, sizes[0], 0), filter(t, sizes[1], 4)
		is(t, "Join", f.Join(g), api.ErrFilter)
		ones(t, "f", f, sizes[0], 0, 1, 2, 3)
		ones(t, "g", g, sizes[1], 4, 5, 6, 7)
		is(t, "of an empty one", f.Join(filter(t, sizes[1])), api.ErrFilter)
		ones(t, "f behind an empty one", f, sizes[0], 0, 1, 2, 3)
	}
}

// P4.3: what is 1 in either is 1; the one that is joined stays.
func TestJoin(t *testing.T) {
	f, g := filter(t, 24, 0), filter(t, 24, 2, 20)
	is(t, "Join", f.Join(g), api.OK)
	ones(t, "f", f, 24, 0, 1, 2, 3, 4, 5, 20, 21, 22, 23)
	ones(t, "g", g, 24, 2, 3, 4, 5, 20, 21, 22, 23)
	for _, h := range []uint64{0, 2, 20} {
		may(t, "joined", f, h, true)
	}
	may(t, "not joined back", g, 0, false)
	is(t, "Join", f.Join(g), api.OK)
	ones(t, "joined again", f, 24, 0, 1, 2, 3, 4, 5, 20, 21, 22, 23)
}

// P4.3: joined to an empty one, and an empty one joined.
func TestJoinOfEmpty(t *testing.T) {
	f, g := filter(t, 65536), filter(t, 65536, 65535)
	is(t, "Join", g.Join(f), api.OK)
	ones(t, "an empty one joined", g, 65536, 65535, 0, 1, 2)
	ones(t, "the empty one", f, 65536)
	is(t, "Join", f.Join(g), api.OK)
	ones(t, "joined to an empty one", f, 65536, 65535, 0, 1, 2)
}

// P4.3: a filter that is joined to itself is as it was.
func TestJoinOfItself(t *testing.T) {
	f := filter(t, 16, 0, 9)
	is(t, "Join", f.Join(f), api.OK)
	ones(t, "joined to itself", f, 16, 0, 1, 2, 3, 9, 10, 11, 12)
	g := filter(t, 8)
	is(t, "Join", g.Join(g), api.OK)
	ones(t, "an empty one", g, 8)
}

// P4.3, R3: each of two that were joined goes on by itself.
func TestJoinKeepsNothing(t *testing.T) {
	f, g := filter(t, 32), filter(t, 32, 0)
	is(t, "Join", f.Join(g), api.OK)
	is(t, "Add", g.Add(8), api.OK)
	ones(t, "f", f, 32, 0, 1, 2, 3)
	is(t, "Add", f.Add(16), api.OK)
	ones(t, "g", g, 32, 0, 1, 2, 3, 8, 9, 10, 11)
	is(t, "Clear", g.Clear(), api.OK)
	ones(t, "f behind g's Clear", f, 32, 0, 1, 2, 3, 16, 17, 18, 19)
}

// P4.3: behind Clear a filter is as a new one of its size.
func TestClear(t *testing.T) {
	for _, size := range []int{8, 24, 65536} {
		f := filter(t, size, hashes(50)...)
		is(t, "Clear", f.Clear(), api.OK)
		ones(t, "cleared", f, size)
		for _, h := range hashes(50) {
			may(t, "cleared", f, h, false)
		}
		is(t, "Add", f.Add(4), api.OK)
		ones(t, "added behind it", f, size, 4, 5, 6, 7)
		is(t, "Clear", f.Clear(), api.OK)
		is(t, "Clear", f.Clear(), api.OK)
		ones(t, "cleared twice", f, size)
	}
}

// P4.3: Set counts every bit, wherever it stands.
func TestSetCountsEach(t *testing.T) {
	for n := range 48 {
		ones(t, "of one bit", of(t, whole(48, n)...), 48, n)
	}
	all := append([]byte{0, 1, 0, 0}, bytes.Repeat([]byte{255}, 8192)...)
	if got := of(t, all...).Set(); got != 65536 {
		t.Errorf("of all bits: %d", got)
	}
}
