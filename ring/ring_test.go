package ring_test

import (
	"math"
	"testing"

	"icehouse/api"
	"icehouse/ring"
)

// numbers is the edges of both sizes, those beside them, and others.
var numbers = []int{math.MinInt, -24, -4, -1, 0, 1, 2, 3, 4, 5, 15, 16, 17, 23, 24, 25, 63, 64, 65, 256 + 16, 65536 + 24, 1<<32 + 4, 1<<32 + 24, math.MaxInt}

// made is the ring that New answers.
func made(t *testing.T, segments, sectors int) api.Ring {
	t.Helper()
	r, err := ring.New(segments, sectors)
	if err != api.OK {
		t.Fatalf("New(%d, %d): error %d", segments, sectors, err)
	}
	return r
}

// checks tells whether Check judges a ring as the words do, and leaves it as it is.
func checks(t *testing.T, r api.Ring) {
	t.Helper()
	was, want := copied(r), api.Errno(180)
	if mayBe(r) {
		want = 0
	}
	if err := ring.Check(r); err != want {
		t.Fatalf("Check(%v) is %d, asked is %d", r, err, want)
	}
	stays(t, r, was)
}

// stays tells whether a ring is as it was, and the room behind its list too, if it has some.
func stays(t *testing.T, r, was api.Ring) {
	t.Helper()
	if !alike(r, was) {
		t.Fatalf("a ring that was %v is %v", was, r)
	}
	if n := len(r.Segs); cap(r.Segs) > n && r.Segs[:n+1][n] != room {
		t.Fatalf("behind %v stands %v", r, r.Segs[:n+1][n])
	}
}

// P8.1: New answers a ring, all free, where there may be one, else ErrArg and nothing: all edges, each with each.
func TestNew(t *testing.T) {
	for _, segments := range numbers {
		for _, sectors := range numbers {
			r, err := ring.New(segments, sectors)
			if segments < 4 || segments > 16 || sectors < 24 || sectors > 64 {
				if err != 2 || r.Sectors != 0 || len(r.Segs) != 0 {
					t.Errorf("New(%d, %d) is %v, error %d", segments, sectors, r, err)
				}
				continue
			}
			if err != 0 || r.Sectors != sectors || len(r.Segs) != segments {
				t.Fatalf("New(%d, %d) is %v, error %d", segments, sectors, r, err)
			}
			for i, s := range r.Segs {
				if s.State != 0 || s.Generation != 0 || s.Used != 0 {
					t.Errorf("New(%d, %d): segment %d is %v", segments, sectors, i, s)
				}
			}
			checks(t, r)
			told(t, r)
			turns(t, r)
		}
	}
}

// P8.1, R3: each ring that New answers has a list of its own.
func TestNewOwn(t *testing.T) {
	a, b := made(t, 4, 24), made(t, 4, 24)
	a.Segs[0] = open(1, 1)
	if !alike(b, ringOf(24, free(), free(), free(), free())) {
		t.Errorf("another ring's list is %v", b.Segs)
	}
}

// P8.1: the numbers of segments and sectors alone make a ring that may not be.
func TestCheckSizes(t *testing.T) {
	for n := range 20 {
		for _, sectors := range numbers {
			r := ringOf(sectors, make([]api.Seg, n)...)
			checks(t, r)
			for i := range r.Segs {
				r.Segs[i] = sealed(uint64(100-i), 1)
			}
			checks(t, r)
			if n > 0 {
				r.Segs[0].State = 1
				checks(t, r)
			}
		}
	}
}

// P8.1: no list at all, and a very long one, are no ring.
func TestCheckLists(t *testing.T) {
	for _, r := range []api.Ring{{}, {Sectors: 24}, {Sectors: 24, Segs: []api.Seg{}}, {Sectors: 24, Segs: make([]api.Seg, 1<<16)}} {
		if err := ring.Check(r); err != 180 {
			t.Errorf("Check of %d segments is %d", len(r.Segs), err)
		}
	}
}

// P8.1: one segment with each edge of each field beside those that are free, or sealed, at each place.
func TestCheckSegment(t *testing.T) {
	for _, sectors := range []int{24, 25, 64} {
		for _, base := range []api.Ring{
			ringOf(sectors, make([]api.Seg, 4)...),
			ringOf(sectors, sealed(5, 1), sealed(2, sectors), free(), sealed(3, 2)),
			ringOf(sectors, free(), free(), sealed(1, 1), sealed(top, 1), free()),
			ringOf(sectors, sealed(2, 1), open(4, 1), free(), sealed(1, 1), sealed(3, 1)),
		} {
			for i := range base.Segs {
				each(sectors, func(s api.Seg) { checks(t, with(base, i, s)) })
			}
		}
	}
}

// each tells the segments of all edges of all fields, each with each.
func each(sectors int, tell func(s api.Seg)) {
	for _, state := range []int{math.MinInt, -1, 0, 1, 2, 3, 4, 256, 1 << 32, math.MaxInt} {
		for _, generation := range []uint64{0, 1, 2, 3, 4, 5, 6, 1 << 32, 1 << 63, top - 1, top} {
			for _, used := range []int{math.MinInt, -1, 0, 1, 2, sectors - 1, sectors, sectors + 1, 256, 1<<32 + 1, math.MaxInt} {
				tell(api.Seg{State: state, Generation: generation, Used: used})
			}
		}
	}
}

// P8.1: a ring that may not be by one of the sentences alone.
func TestCheckAlone(t *testing.T) {
	for name, r := range wrongs() {
		if err := ring.Check(r); err != 180 {
			t.Errorf("%s: Check is %d", name, err)
		}
		if mayBe(r) {
			t.Errorf("%s: such a ring may be", name)
		}
	}
}

// wrongs is a ring for each of the sentences by which alone it may not be.
func wrongs() map[string]api.Ring {
	four := func(s ...api.Seg) api.Ring { return ringOf(24, s...) }
	return map[string]api.Ring{
		"no list":                       {Sectors: 24},
		"too few segments":              four(sealed(1, 1), open(2, 3), free()),
		"too many segments":             four(append(make([]api.Seg, 15), sealed(1, 1), open(2, 3))...),
		"too few sectors":               ringOf(23, sealed(1, 1), open(2, 3), free(), free()),
		"too many sectors":              ringOf(65, sealed(1, 1), open(2, 3), free(), free()),
		"sectors below 0":               ringOf(-24, sealed(1, 1), open(2, 3), free(), free()),
		"a state above":                 four(sealed(1, 1), open(2, 3), free(), api.Seg{State: 3, Generation: 1 << 40, Used: 1}),
		"a state above, else free":      four(sealed(1, 1), open(2, 3), free(), api.Seg{State: 3}),
		"a state below":                 four(sealed(2, 1), open(3, 3), free(), api.Seg{State: -1, Generation: 1, Used: 1}),
		"a state below, else free":      four(sealed(2, 1), open(3, 3), free(), api.Seg{State: -1}),
		"a free one with a Generation":  four(sealed(2, 1), open(3, 3), free(), api.Seg{Generation: 1}),
		"a free one with Used":          four(sealed(2, 1), open(3, 3), free(), api.Seg{Used: 1}),
		"a free one with Used below 0":  four(sealed(2, 1), open(3, 3), free(), api.Seg{Used: -1}),
		"an open one, no Generation":    four(open(0, 1), free(), free(), free()),
		"a sealed one, no Generation":   four(sealed(0, 1), free(), free(), open(1, 1)),
		"an open one with Used 0":       four(sealed(1, 1), open(2, 0), free(), free()),
		"a sealed one with Used 0":      four(sealed(1, 0), open(2, 1), free(), free()),
		"an open one with too much":     four(sealed(1, 1), open(2, 25), free(), free()),
		"a sealed one with too much":    four(sealed(1, 25), open(2, 1), free(), free()),
		"two sealed of one Generation":  four(sealed(1, 1), free(), sealed(1, 2), open(2, 1)),
		"two of the same":               four(sealed(1, 1), free(), sealed(1, 1), open(2, 1)),
		"an open, a sealed of one":      four(sealed(1, 1), sealed(2, 1), free(), open(2, 1)),
		"an open, a sealed behind it":   four(open(2, 1), sealed(1, 1), free(), sealed(2, 1)),
		"two open ones":                 four(sealed(1, 1), open(2, 1), free(), open(3, 1)),
		"two open ones, the other way":  four(sealed(1, 1), open(3, 1), free(), open(2, 1)),
		"two open ones of one":          four(open(2, 1), open(2, 1), free(), sealed(1, 1)),
		"an open one, sealed above it":  four(sealed(3, 1), open(2, 1), free(), sealed(1, 1)),
		"an open one, the least":        four(sealed(3, 1), open(1, 1), free(), sealed(2, 1)),
		"an open one, the top above it": four(open(top-1, 1), sealed(top, 1), free(), free()),
	}
}

// P8.1: Same tells each single difference of a field, and nothing else.
func TestSame(t *testing.T) {
	base := func() api.Ring { return ringOf(24, sealed(3, 2), open(4, 1), free(), sealed(2, 24)) }
	if !ring.Same(base(), base()) {
		t.Error("a ring is not the same as itself")
	}
	differ := func(change func(r *api.Ring)) {
		t.Helper()
		a, b := base(), base()
		change(&b)
		b = copied(b)
		was := copied(b)
		if ring.Same(a, b) || ring.Same(b, a) {
			t.Errorf("%v is the same as %v", a, b)
		}
		if !ring.Same(b, was) {
			t.Errorf("%v is not the same as %v", b, was)
		}
		stays(t, a, base())
		stays(t, b, was)
	}
	for _, n := range []int{-24, 0, 23, 25, 65, 1<<32 + 24} {
		differ(func(r *api.Ring) { r.Sectors = n })
	}
	for i := range 4 {
		for _, n := range []int{-1, 1, 3, 1 << 32} {
			differ(func(r *api.Ring) { r.Segs[i].State += n })
			differ(func(r *api.Ring) { r.Segs[i].Used += n })
			differ(func(r *api.Ring) { r.Segs[i].Generation += uint64(n) })
		}
		differ(func(r *api.Ring) { r.Segs[i].Generation += 1 << 63 })
		for k := range i {
			differ(func(r *api.Ring) { r.Segs[i], r.Segs[k] = r.Segs[k], r.Segs[i] })
		}
		differ(func(r *api.Ring) { r.Segs = r.Segs[:i] })
		differ(func(r *api.Ring) { r.Segs = append([]api.Seg{free()}, r.Segs[:i]...) })
	}
	differ(func(r *api.Ring) { r.Segs = append(append([]api.Seg{}, r.Segs...), free()) })
	differ(func(r *api.Ring) { r.Segs = append([]api.Seg{free()}, r.Segs...) })
}

// P8.1, R3: Same looks at the fields alone: a ring may be or not, its list may be nil or empty, in the same memory or not.
func TestSameWhatever(t *testing.T) {
	if !ring.Same(api.Ring{}, api.Ring{Segs: []api.Seg{}}) || !ring.Same(api.Ring{Segs: []api.Seg{}}, api.Ring{}) {
		t.Error("nil and empty are not the same")
	}
	if ring.Same(api.Ring{}, api.Ring{Sectors: 24}) || ring.Same(api.Ring{}, api.Ring{Segs: make([]api.Seg, 1)}) {
		t.Error("a difference is not told")
	}
	all := wrongs()
	for name, a := range all {
		if !ring.Same(a, copied(a)) || !ring.Same(a, a) {
			t.Errorf("%s: not the same as itself", name)
		}
		for other, b := range all {
			if ring.Same(a, b) != alike(a, b) {
				t.Errorf("Same of %s and %s is %v", name, other, !alike(a, b))
			}
		}
	}
}
