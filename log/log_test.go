package log_test

import (
	"math"
	"slices"
	"testing"

	"icehouse/api"
	"icehouse/disk"
	"icehouse/log"
	"icehouse/super"
)

// top is the greatest Generation there is.
const top uint64 = math.MaxUint64

// free is a ring whose segments are free.
func free(segments, sectors int) api.Ring {
	return api.Ring{Sectors: sectors, Segs: make([]api.Seg, segments)}
}

// sealed is a segment that is sealed.
func sealed(generation uint64, used int) api.Seg {
	return api.Seg{State: api.SegSealed, Generation: generation, Used: used}
}

// formatted is a disk that was just formatted, and what is known of it.
func formatted(t *testing.T, segments, sectors int) (*disk.Disk, *super.Store) {
	t.Helper()
	d, err := disk.New(2 + segments*sectors)
	if err != api.OK {
		t.Fatalf("disk.New: error %d", err)
	}
	s, err := super.Format(d, segments, sectors)
	if err != api.OK {
		t.Fatalf("super.Format: error %d", err)
	}
	return d, s
}

// made is a Log of a ring that is all free, over a disk that was just formatted.
func made(t *testing.T, segments, sectors int) (*disk.Disk, *log.Log) {
	t.Helper()
	d, s := formatted(t, segments, sectors)
	l, err := log.Open(s, free(segments, sectors))
	if l == nil || err != api.OK {
		t.Fatalf("Open: error %d", err)
	}
	return d, l
}

// stands tells whether Append answers just that address.
func stands(t *testing.T, l *log.Log, r api.Record, want api.Address) {
	t.Helper()
	if a, err := l.Append(r); a != want || err != api.OK {
		t.Fatalf("Append is %v, error %d; asked is %v", a, err, want)
	}
}

// reads tells whether Read answers just that record.
func reads(t *testing.T, l *log.Log, a api.Address, want api.Record) {
	t.Helper()
	if r, err := l.Read(a); err != api.OK || !alike(r, want) {
		t.Fatalf("Read(%v) is %v, error %d; asked is %v", a, r, err, want)
	}
}

// refuses tells whether Read answers just that error.
func refuses(t *testing.T, l *log.Log, a api.Address, want api.Errno) {
	t.Helper()
	if r, err := l.Read(a); err != want || !nought(r) {
		t.Fatalf("Read(%v) is %v, error %d; asked is error %d", a, r, err, want)
	}
}

// The chapter's examples, and P9.2 to P9.5.
func TestExamples(t *testing.T) {
	_, l := made(t, 4, 24)
	first, second, third := item(17, 1), item(7, 2), item(1, 3)
	stands(t, l, first, api.Address{Segment: 0, Generation: 1, Sector: 1})
	if r := l.Ring(); !sameRing(r, api.Ring{Sectors: 24, Segs: []api.Seg{{State: api.SegOpen, Generation: 1, Used: 18}, {}, {}, {}}}) {
		t.Errorf("Ring is %v", r)
	}
	stands(t, l, second, api.Address{Segment: 1, Generation: 2, Sector: 1})
	stands(t, l, third, api.Address{Segment: 1, Generation: 2, Sector: 8})
	if r := l.Ring(); !sameRing(r, api.Ring{Sectors: 24, Segs: []api.Seg{sealed(1, 18), {State: api.SegOpen, Generation: 2, Used: 9}, {}, {}}}) {
		t.Errorf("Ring is %v", r)
	}
	reads(t, l, api.Address{Segment: 0, Generation: 1, Sector: 1}, first)
	refuses(t, l, api.Address{Segment: 0, Generation: 2, Sector: 1}, api.ErrNone)
	reads(t, l, api.Address{Segment: 1, Generation: 2, Sector: 1}, second)
	reads(t, l, api.Address{Segment: 1, Generation: 2, Sector: 8}, third)
	if x, err := log.Scan(l.Super(), 0); x.Generation != 1 || x.Used != 18 || err != api.OK {
		t.Errorf("Scan(0) is %v, error %d", x, err)
	}
	if err := l.Free(1); err != api.ErrState {
		t.Errorf("Free(1) is error %d", err)
	}
	if err := l.Free(0); err != api.OK {
		t.Errorf("Free(0) is error %d", err)
	}
	refuses(t, l, api.Address{Segment: 0, Generation: 1, Sector: 1}, api.ErrNone)
}

// openIs tells whether Open answers just that error; with OK a Log of that ring and Store that is not broken.
func openIs(t *testing.T, s *super.Store, r api.Ring, want api.Errno) {
	t.Helper()
	l, err := log.Open(s, r)
	if err != want || (l != nil) != (want == api.OK) {
		t.Fatalf("Open(%v) is error %d; asked is %d", r, err, want)
	}
	if l != nil && (!sameRing(l.Ring(), r) || l.Super() != s || l.Broken()) {
		t.Fatalf("Open(%v) has the ring %v, broken %t", r, l.Ring(), l.Broken())
	}
}

// P9.1: rings that may not be, of other counts, with one open; which goes ahead.
func TestOpen(t *testing.T) {
	open := api.Seg{State: api.SegOpen, Generation: 9, Used: 24}
	_, s := formatted(t, 4, 24)
	for _, x := range []struct {
		r    api.Ring
		want api.Errno
	}{
		{free(4, 24), api.OK},
		{api.Ring{Sectors: 24, Segs: []api.Seg{sealed(3, 1), {}, sealed(top, 24), sealed(1, 7)}}, api.OK},
		{api.Ring{Sectors: 24, Segs: []api.Seg{sealed(1, 2), sealed(2, 2), sealed(3, 2), sealed(4, 2)}}, api.OK},
		{api.Ring{}, api.ErrRing},
		{api.Ring{Sectors: 24}, api.ErrRing},
		{free(3, 24), api.ErrRing},
		{free(17, 24), api.ErrRing},
		{free(4, 23), api.ErrRing},
		{free(4, 65), api.ErrRing},
		{free(4, -24), api.ErrRing},
		{free(4, 0), api.ErrRing},
		{free(5, 24), api.ErrArg},
		{free(16, 24), api.ErrArg},
		{free(4, 25), api.ErrArg},
		{free(4, 64), api.ErrArg},
		{free(5, 25), api.ErrArg},
		{api.Ring{Sectors: 24, Segs: []api.Seg{sealed(1, 2), open, {}, {}}}, api.ErrState},
		{api.Ring{Sectors: 24, Segs: []api.Seg{{}, {}, {}, open}}, api.ErrState},
		{api.Ring{Sectors: 24, Segs: []api.Seg{sealed(1, 0), {}, {}, {}}}, api.ErrRing},
		{api.Ring{Sectors: 24, Segs: []api.Seg{sealed(1, 25), {}, {}, {}}}, api.ErrRing},
		{api.Ring{Sectors: 24, Segs: []api.Seg{sealed(0, 1), {}, {}, {}}}, api.ErrRing},
		{api.Ring{Sectors: 24, Segs: []api.Seg{sealed(1, 1), sealed(1, 1), {}, {}}}, api.ErrRing},
		{api.Ring{Sectors: 24, Segs: []api.Seg{{Used: 1}, {}, {}, {}}}, api.ErrRing},
		{api.Ring{Sectors: 24, Segs: []api.Seg{{State: 3, Generation: 1, Used: 1}, {}, {}, {}}}, api.ErrRing},
		{api.Ring{Sectors: 24, Segs: []api.Seg{{State: -1, Generation: 1, Used: 1}, {}, {}, {}}}, api.ErrRing},
		// Of two that hold the first one is told.
		{api.Ring{Sectors: 24, Segs: []api.Seg{open, open, {}, {}}}, api.ErrRing},
		{api.Ring{Sectors: 24, Segs: []api.Seg{open, sealed(10, 1), {}, {}}}, api.ErrRing},
		{api.Ring{Sectors: 24, Segs: []api.Seg{sealed(1, 25), {}, {}, {}, {}}}, api.ErrRing},
		{api.Ring{Sectors: 24, Segs: []api.Seg{open, {}, {}, {}, {}}}, api.ErrArg},
		{api.Ring{Sectors: 25, Segs: []api.Seg{open, {}, {}, {}}}, api.ErrArg},
	} {
		openIs(t, s, x.r, x.want)
		openIs(t, nil, x.r, api.ErrNil)
	}
}

// P9.1: all sizes against all others.
func TestOpenSizes(t *testing.T) {
	sizes := [][2]int{{4, 24}, {4, 25}, {5, 24}, {16, 64}, {16, 24}, {4, 64}, {7, 33}}
	for _, x := range sizes {
		_, s := formatted(t, x[0], x[1])
		for _, y := range sizes {
			want := api.ErrArg
			if x == y {
				want = api.OK
			}
			openIs(t, s, free(y[0], y[1]), want)
		}
	}
}

// P9.1: Open does nothing to the disk, and does not ask it either.
func TestOpenTouchesNothing(t *testing.T) {
	d, s := formatted(t, 4, 24)
	before, ops := held(d), d.Ops()
	d.Arm(0)
	d.Sync()
	openIs(t, s, free(4, 24), api.OK)
	if d.Ops() != ops || !slices.Equal(held(d), before) {
		t.Error("Open has asked the disk")
	}
}

// R3, P9.1, P9.5: the ring that is handed in is not kept, the one that is answered is new.
func TestRingIsCopied(t *testing.T) {
	_, s := formatted(t, 4, 24)
	list := make([]api.Seg, 4, 6)
	list[:6][4] = api.Seg{State: 7, Generation: 7, Used: 7}
	list[0] = sealed(3, 9)
	s.Set(api.Super{Segments: 4, Sectors: 24, Generation: 3})
	r := api.Ring{Sectors: 24, Segs: list}
	l, _ := log.Open(s, r)
	want := api.Ring{Sectors: 24, Segs: []api.Seg{sealed(3, 9), {}, {}, {}}}
	list[0], list[1] = sealed(5, 5), sealed(6, 6)
	if x := l.Ring(); !sameRing(x, want) {
		t.Errorf("Ring is %v", x)
	}
	x := l.Ring()
	x.Segs[0] = api.Seg{}
	if x := l.Ring(); !sameRing(x, want) {
		t.Errorf("Ring is %v", x)
	}
	ahead := l.Ring()
	stands(t, l, item(1, 1), api.Address{Segment: 1, Generation: 4, Sector: 1})
	if !sameRing(ahead, want) || list[0] != sealed(5, 5) || list[1] != sealed(6, 6) || list[:6][4] != (api.Seg{State: 7, Generation: 7, Used: 7}) {
		t.Error("a ring that was handed in, or answered, is another one behind Append")
	}
}

// R4, P9.1 to P9.5: nil ones.
func TestNil(t *testing.T) {
	var l *log.Log
	for _, r := range []api.Record{item(1, 1), {}} {
		if a, err := l.Append(r); a != (api.Address{}) || err != api.ErrNil {
			t.Errorf("Append is %v, error %d", a, err)
		}
	}
	if err := l.Sync(); err != api.ErrNil {
		t.Errorf("Sync is error %d", err)
	}
	for _, a := range []api.Address{{}, {Segment: -1}, {Segment: 0, Generation: 1, Sector: 1}} {
		refuses(t, l, a, api.ErrNil)
	}
	for i := -1; i < 5; i++ {
		if err := l.Free(i); err != api.ErrNil {
			t.Errorf("Free(%d) is error %d", i, err)
		}
		if x, err := log.Scan(nil, i); !sameScan(x, api.Scan{}) || err != api.ErrNil {
			t.Errorf("Scan(%d) is %v, error %d", i, x, err)
		}
	}
	if r := l.Ring(); !sameRing(r, api.Ring{}) {
		t.Errorf("Ring is %v", r)
	}
	if l.Super() != nil || l.Broken() {
		t.Errorf("Super is %v, Broken %t", l.Super(), l.Broken())
	}
}

// P9.5: Super is the Store that was handed in, which is shared.
func TestSuper(t *testing.T) {
	d, s := formatted(t, 4, 24)
	l, _ := log.Open(s, free(4, 24))
	if l.Super() != s || l.Super().Disk() != d {
		t.Error("Super is another Store")
	}
	stands(t, l, item(1, 1), api.Address{Segment: 0, Generation: 1, Sector: 1})
	if x := s.Get(); x.Generation != 1 {
		t.Errorf("known is %v", x)
	}
}
