package recover_test

import (
	"math"
	"slices"
	"testing"

	"icehouse/api"
	"icehouse/ring"
)

// knowns are what may be known of a disk of so many segments: Retired and Generation together, apart, and at their ends.
func knowns(segments, sectors int) []api.Super {
	var l []api.Super
	for _, g := range [][2]uint64{{0, 0}, {0, 1}, {0, 9}, {1, 1}, {1, 2}, {2, 5}, {7, 7}, {0, math.MaxUint64}, {math.MaxUint64 - 2, math.MaxUint64}, {math.MaxUint64, math.MaxUint64}} {
		l = append(l, api.Super{Segments: segments, Sectors: sectors, Retired: g[0], Generation: g[1], Reserved: 5})
	}
	return l
}

// P16.3: each of four segments with each Generation of those at Retired, at what is known as Generation, beside both, and at the ends.
func TestGenerations(t *testing.T) {
	t.Parallel()
	for _, x := range knowns(4, 24) {
		edges := []uint64{0, x.Retired - 1, x.Retired, x.Retired + 1, x.Generation - 1, x.Generation, x.Generation + 1, math.MaxUint64}
		slices.Sort(edges)
		edges = slices.Compact(edges)
		for n := range len(edges) * len(edges) * len(edges) * len(edges) {
			var l []api.Scan
			for i, m := uint64(0), n; i < 4; i++ {
				l = append(l, scan(edges[m%len(edges)], put(1, "a", i%2+1), put(2, string('b'+rune(i)), i+1)))
				m /= len(edges)
			}
			r, err := ringOf(t, x, l)
			if err != api.OK || ring.Check(r) != api.OK {
				t.Fatalf("Ring of %v, %s is %v, error %d", x, inShort(l), r, err)
			}
			judge(t, x, l)
		}
	}
}

// P16.3: a Generation at Retired does not count, one more does; what is known as Generation does, one more does not; of none there is nothing.
func TestCounts(t *testing.T) {
	x := api.Super{Segments: 6, Sectors: 24, Retired: 4, Generation: 7}
	l := []api.Scan{scan(4, put(1, "a", 1)), scan(5, put(1, "b", 2)), scan(7, put(1, "c", 3)), scan(8, put(1, "d", 4)), scan(0, put(1, "e", 5)), scan(3, put(1, "f", 6))}
	r, _ := ringOf(t, x, l)
	want := []api.Seg{{}, {State: api.SegSealed, Generation: 5, Used: 2}, {State: api.SegSealed, Generation: 7, Used: 2}, {}, {}, {}}
	if !slices.Equal(r.Segs, want) {
		t.Errorf("the ring is %v; asked is %v", r.Segs, want)
	}
	lives(t, x, l, api.Report{Segments: 2, Items: 2}, "b", "c")
	// Where nothing is retired, Generation 0 does not count either.
	x = api.Super{Segments: 6, Sectors: 24}
	r, _ = ringOf(t, x, l)
	if !slices.Equal(r.Segs, make([]api.Seg, 6)) {
		t.Errorf("the ring is %v", r.Segs)
	}
	lives(t, x, l, api.Report{})
}

// P16.3: of two, and of three, of one Generation the one of the least number counts, wherever they are; one that does not count is in nobody's way.
func TestOneGeneration(t *testing.T) {
	for a := range 5 {
		for b := a + 1; b < 5; b++ {
			for c := b; c < 5; c++ {
				x := api.Super{Segments: 5, Sectors: 24, Retired: 2, Generation: 6}
				l := make([]api.Scan, 5)
				for i := range l {
					l[i] = scan(1, put(1, "nothing", 9))
				}
				for _, i := range []int{c, b, a} {
					l[i] = scan(5, put(1, string('a'+rune(i)), uint64(i+1)))
				}
				r, _ := ringOf(t, x, l)
				want := make([]api.Seg, 5)
				want[a] = api.Seg{State: api.SegSealed, Generation: 5, Used: 2}
				if !slices.Equal(r.Segs, want) {
					t.Fatalf("the ring is %v; asked is %v", r.Segs, want)
				}
				lives(t, x, l, api.Report{Segments: 1, Items: 1}, string('a'+rune(a)))
			}
		}
	}
}

// P16.3: Used of 0, 1, Sectors, one more, and others, in a segment that counts and in one that does not.
func TestUsed(t *testing.T) {
	for _, sectors := range []int{24, 25, 48, 63, 64} {
		for _, x := range []struct{ said, want int }{{math.MinInt, 1}, {-1, 1}, {0, 1}, {1, 1}, {2, 2}, {sectors - 1, sectors - 1}, {sectors, sectors}, {sectors + 1, sectors}, {1 << 16, sectors}, {math.MaxInt, sectors}} {
			known := api.Super{Segments: 4, Sectors: sectors, Retired: 1, Generation: 3}
			l := []api.Scan{{Generation: 3, Used: x.said}, {Generation: 1, Used: x.said}, {Used: x.said}, {Generation: 4, Used: x.said}}
			r, _ := ringOf(t, known, l)
			want := []api.Seg{{State: api.SegSealed, Generation: 3, Used: x.want}, {}, {}, {}}
			if !slices.Equal(r.Segs, want) || r.Sectors != sectors {
				t.Errorf("of Used %d the ring is %v", x.said, r)
			}
			is(t, ring.Check(r), api.OK)
		}
	}
}

// P16.3: all counts of segments that there may be, in each of which all, none and every other one counts, by rising and by falling generations.
func TestSegments(t *testing.T) {
	for segments := 4; segments <= 16; segments++ {
		for every := 1; every <= segments; every++ {
			x := api.Super{Segments: segments, Sectors: 24 + segments, Retired: 3, Generation: uint64(3 + segments)}
			up, down := make([]api.Scan, segments), make([]api.Scan, segments)
			n := 0
			for i := range segments {
				if i%every == 0 {
					up[i] = scan(uint64(4+i), put(1, "all", 9), put(2, string('a'+rune(i)), 1))
					down[segments-1-i] = up[i]
					n++
				}
			}
			for _, l := range [][]api.Scan{up, down} {
				r, _ := ringOf(t, x, l)
				if len(r.Segs) != segments || ring.Frees(r) != segments-n {
					t.Fatalf("the ring is %v", r)
				}
				var keys []string
				for i := range segments {
					if i%every == 0 {
						keys = append(keys, string('a'+rune(i)))
					}
				}
				keys = slices.Insert(keys, n-1, "all")
				lives(t, x, l, api.Report{Segments: n, Items: n + 1, Gone: n - 1}, keys...)
			}
		}
	}
}

// P16.3: as many scans as there are segments, one less, one more, none; what is known that may not be, with as many scans as it says, if there can be so many: ErrArg and zeros.
func TestArg(t *testing.T) {
	refused := func(x api.Super, l []api.Scan) {
		t.Helper()
		r, err := ringOf(t, x, l)
		if err != api.ErrArg || !ring.Same(r, api.Ring{}) {
			t.Errorf("Ring of %v and %d scans is %v, error %d", x, len(l), r, err)
		}
		live, report, err := judge(t, x, l)
		if err != api.ErrArg || len(live) > 0 || report != (api.Report{}) {
			t.Errorf("Judge of %v and %d scans is %v, %v, error %d", x, len(l), live, report, err)
		}
	}
	scans := func(n int) []api.Scan {
		l := make([]api.Scan, max(n, 0))
		for i := range l {
			l[i] = scan(uint64(i+1), put(1, string('a'+rune(i)), 1))
		}
		return l
	}
	for segments := 4; segments <= 16; segments++ {
		x := api.Super{Segments: segments, Sectors: 24, Generation: 20}
		for _, n := range []int{0, 1, segments - 1, segments + 1, 2 * segments} {
			refused(x, scans(n))
		}
		refused(x, nil)
		if _, _, err := judge(t, x, scans(segments)); err != api.OK {
			t.Errorf("error %d", err)
		}
	}
	wrong := []int{math.MinInt, -16, -4, -1, 0, 1, 2, 3, 17, 18, 32, 64, 300, 1<<16 + 4}
	for _, segments := range wrong {
		refused(api.Super{Segments: segments, Sectors: 24, Generation: 20}, scans(segments))
		refused(api.Super{Segments: segments, Sectors: 24, Generation: 20}, scans(4))
	}
	for _, sectors := range []int{math.MinInt, -24, -1, 0, 1, 23, 65, 66, 128, 1<<16 + 24, 1<<32 + 24, math.MaxInt} {
		refused(api.Super{Segments: 4, Sectors: sectors, Generation: 20}, scans(4))
	}
	for _, g := range []uint64{0, 1, 19, math.MaxUint64 - 1} {
		refused(api.Super{Segments: 4, Sectors: 24, Generation: g, Retired: g + 1}, scans(4))
		refused(api.Super{Segments: 4, Sectors: 24, Generation: g, Retired: math.MaxUint64}, scans(4))
	}
	refused(api.Super{}, nil)
	refused(api.Super{}, scans(4))
}

// P16.3: what else is known, and what the records say, plays no part in the ring.
func TestRingOthers(t *testing.T) {
	x := api.Super{Segments: 4, Sectors: 24, Generation: 3, Retired: 1}
	for _, x.Reserved = range []uint64{0, 1, math.MaxUint64} {
		for _, x.Flush = range []uint64{0, 1, math.MaxUint64} {
			for _, l := range [][]api.Placed{nil, {}, {put(1, "a", 1)}, {{}}, {killed(-4, "a", 9), put(3, "", 0)}} {
				r, _ := ringOf(t, x, []api.Scan{{}, {Generation: 2, Used: 7, Records: l}, {}, {Generation: 3, Used: 24, Records: l}})
				if !slices.Equal(r.Segs, []api.Seg{{}, {State: 2, Generation: 2, Used: 7}, {}, {State: 2, Generation: 3, Used: 24}}) {
					t.Errorf("the ring is %v", r)
				}
			}
		}
	}
}
