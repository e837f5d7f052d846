package hash_test

import (
	"math"
	"slices"
	"testing"

	"icehouse/hash"
)

// The most that probes may be asked for.
const (
	mostPlaces = 1 << 24
	mostProbes = 16
)

// turns are hashes whose highest 32 bits are even and odd, and whose sums pass 2^32 early, late, or never.
func turns() []uint64 {
	out := []uint64{0, 1, math.MaxUint32, 1 << 32, 2 << 32, 3 << 32, 1<<63 | 5, math.MaxUint64, math.MaxUint64 - 1<<32}
	for _, c := range hashes() {
		out = append(out, c.hash)
	}
	return out
}

// probe is probe i of h among m places, as the chapter's words say it, in numbers that can't wrap round.
func probe(h uint64, m, i int) int {
	a, b := h%(1<<32), h/(1<<32)
	if b%2 == 0 {
		b++
	}
	return int((a + uint64(i)*b) % (1 << 32) % uint64(m))
}

// tells fails, unless the probes are those.
func tells(t *testing.T, h uint64, m, n int, want ...int) {
	t.Helper()
	if got := hash.Probes(h, m, n); !slices.Equal(got, want) {
		t.Errorf("Probes(%x, %d, %d): %v, not %v", h, m, n, got, want)
	}
}

// P3.2: the chapter's examples.
func TestProbesExamples(t *testing.T) {
	tells(t, 0, 10, 3, 0, 1, 2)
	tells(t, 0, 0, 3)
	tells(t, 5, 7, 0)
}

// P3.2: the lowest 32 bits are where it begins, the highest ones how far it goes.
func TestProbesBeginAndGo(t *testing.T) {
	tells(t, 7<<32|100, 1000, 4, 100, 107, 114, 121)
	tells(t, 7<<32|100, 10, 4, 0, 7, 4, 1)
	tells(t, 5, 7, 9, 5, 6, 0, 1, 2, 3, 4, 5, 6)
	tells(t, 0xaf63dc4c8601ec8c, 1<<24, 3, 0x01ec8c, 0x65c8d9, 0xc9a526)
}

// P3.2: of highest bits that are even the lowest one is set, odd ones stay.
func TestProbesOfEvenAndOdd(t *testing.T) {
	tells(t, 2<<32, 10, 5, 0, 3, 6, 9, 2)
	tells(t, 3<<32, 10, 5, 0, 3, 6, 9, 2)
	tells(t, 4<<32|1, 100, 4, 1, 6, 11, 16)
	tells(t, 5<<32|1, 100, 4, 1, 6, 11, 16)
	tells(t, 1<<63, 1<<24, 3, 0, 1, 2)
	tells(t, 1<<63, 3, 4, 0, 0, 2, 2)
}

// P3.2: sums go round at 2^32, ahead of the places: 2^32 is no multiple of 10, nor of 7.
func TestProbesPastTheEnd(t *testing.T) {
	tells(t, 5<<32|0xfffffffa, 10, 5, 0, 5, 4, 9, 4)
	tells(t, 1<<32|0xffffffff, 10, 4, 5, 0, 1, 2)
	tells(t, 0xffffffff, 7, 3, 3, 0, 1)
	tells(t, math.MaxUint64, 10, 7, 5, 4, 3, 2, 1, 0, 9)
	tells(t, 0xfffffffe<<32|0xffffffff, 10, 3, 5, 4, 3)
}

// P3.2: of as many as may be, and of one more, or one less.
func TestProbesEdges(t *testing.T) {
	h := uint64(3<<32 | 8)
	tells(t, h, 100, 0)
	tells(t, h, 100, 1, 8)
	tells(t, h, 100, 16, 8, 11, 14, 17, 20, 23, 26, 29, 32, 35, 38, 41, 44, 47, 50, 53)
	tells(t, h, 100, 17)
	tells(t, h, 0, 2)
	tells(t, h, 1, 2, 0, 0)
	tells(t, h, 2, 3, 0, 1, 0)
	tells(t, 3<<32|mostPlaces-2, mostPlaces, 2, mostPlaces-2, 1)
	tells(t, 3<<32|mostPlaces-2, mostPlaces-1, 2, mostPlaces-2, 2)
	tells(t, h, mostPlaces+1, 2)
}

// P3.2: wrong counts tell nothing, those neither that are right in their lowest bits alone.
func TestProbesOfWrongCounts(t *testing.T) {
	wrong := []int{math.MinInt, -1 << 32, 4 - 1<<32, -17, -2, -1, 0, 1 << 32, 1<<32 + 4, 1<<48 + 8, math.MaxInt}
	for _, h := range turns() {
		for _, m := range append(wrong, mostPlaces+1, 2*mostPlaces, 1<<31) {
			for _, n := range []int{1, 3, mostProbes} {
				tells(t, h, m, n)
			}
			for _, n := range wrong {
				tells(t, h, m, n)
			}
		}
		for _, n := range append(wrong, mostProbes+1, 2*mostProbes, 257) {
			for _, m := range []int{1, 10, mostPlaces} {
				tells(t, h, m, n)
			}
		}
	}
}

// P3.2, P3.3: all probes are as said, and from 0 to m - 1; fewer of them are the first of more.
func TestProbesOfMany(t *testing.T) {
	for _, h := range turns() {
		for _, m := range []int{1, 2, 3, 7, 8, 10, 1000, 1024, 65535, 65536, mostPlaces - 1, mostPlaces} {
			most := hash.Probes(h, m, mostProbes)
			for n := 1; n <= mostProbes; n++ {
				got := hash.Probes(h, m, n)
				if len(got) != n || len(most) != mostProbes || !slices.Equal(got, most[:n]) {
					t.Fatalf("Probes(%x, %d, %d): %v are not the first of %v", h, m, n, got, most)
				}
			}
			for i, x := range most {
				if x < 0 || x >= m || x != probe(h, m, i) {
					t.Errorf("probe %d of %x among %d: %d, not %d", i, h, m, x, probe(h, m, i))
				}
			}
		}
	}
}

// P3.2, R3: what is answered is new memory each time.
func TestProbesAreANewList(t *testing.T) {
	first := hash.Probes(0, 10, 3)
	second := hash.Probes(0, 10, 3)
	clear(first)
	if !slices.Equal(second, []int{0, 1, 2}) {
		t.Errorf("shared with another answer: %v", second)
	}
	tells(t, 0, 10, 3, 0, 1, 2)
}
