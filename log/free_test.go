package log_test

import (
	"math"
	"slices"
	"testing"

	"icehouse/api"
	"icehouse/disk"
	"icehouse/log"
	"icehouse/super"
)

// frees tells whether Free answers just that error, and changes nothing then.
func frees(t *testing.T, p *pair, segment int, want api.Errno) {
	t.Helper()
	ring, known, ops := p.l.Ring(), p.l.Super().Get(), p.d.Ops()
	if err := p.free(t, segment); err != want {
		t.Fatalf("Free(%d) is error %d; asked is %d", segment, err, want)
	}
	if want != api.OK && (!sameRing(p.l.Ring(), ring) || p.l.Super().Get() != known || p.d.Ops() != ops) {
		t.Fatalf("Free(%d) is error %d, and changes something", segment, want)
	}
}

// outside are numbers of which a ring has no segment.
func outside(segments int) []int {
	return []int{math.MinInt, -1 << 32, -segments, -1, segments, segments + 1, 1 << 32, math.MaxInt}
}

// P9.3: Free of the oldest, of another, of the open one, of a free one, of numbers outside, at each step of a lap.
func TestFree(t *testing.T) {
	for _, segments := range []int{4, 7, 16} {
		p := fresh(t, segments, 24)
		for i := range segments {
			frees(t, p, i, api.ErrState)
		}
		for i := range 2 * segments {
			if i >= segments {
				frees(t, p, i%segments, api.OK)
				frees(t, p, i%segments, api.ErrState)
			}
			p.appends(t, item(17, uint64(i+1)))
			oldest := max(0, i-segments+1) % segments
			for k := range segments {
				if k != oldest || i == 0 {
					frees(t, p, k, api.ErrState)
				}
			}
			for _, k := range outside(segments) {
				frees(t, p, k, api.ErrArg)
			}
		}
		// All but the open one, one by one.
		for i := range segments - 1 {
			frees(t, p, i, api.OK)
			knows(t, p.d, api.Super{Segments: segments, Sectors: 24, Generation: uint64(2 * segments), Retired: uint64(segments + 1 + i)})
		}
		frees(t, p, segments-1, api.ErrState)
		if n := p.l.Ring().Segs[segments-1]; n != (api.Seg{State: api.SegOpen, Generation: uint64(2 * segments), Used: 18}) {
			t.Errorf("the open one is %v", n)
		}
	}
}

// P9.3: the oldest one is that of the least generation, whichever number it has; Retired is that generation, and safe, with all that was appended; all else that is known stays.
func TestFreeOldest(t *testing.T) {
	for _, order := range [][]uint64{{3, 5, 7, 9}, {9, 3, 5, 7}, {7, 9, 3, 5}, {9, 7, 5, 3}, {5, 9, 3, 7}} {
		d, s := formatted(t, 4, 24)
		s.Set(api.Super{Segments: 4, Sectors: 24, Generation: 11, Retired: 2, Reserved: 2048, Flush: 99})
		r := free(4, 24)
		for i, g := range order {
			r.Segs[i] = sealed(g, 5)
		}
		p := paired(t, d, r)
		for _, g := range []uint64{3, 5, 7, 9} {
			at := slices.Index(order, g)
			for k, other := range order {
				if other > g {
					frees(t, p, k, api.ErrState)
				}
			}
			frees(t, p, at, api.OK)
			knows(t, d, api.Super{Segments: 4, Sectors: 24, Generation: 11, Retired: g, Reserved: 2048, Flush: 99})
		}
		p.appends(t, item(1, 1))
		knows(t, d, api.Super{Segments: 4, Sectors: 24, Generation: 12, Retired: 9, Reserved: 2048, Flush: 99})
	}
}

// P9.3: a ring whose generations are not known: the error of what is set, which breaks the Log; the segment is not free.
func TestFreeUnknownGeneration(t *testing.T) {
	for _, x := range []struct {
		known, retired, g uint64
		want              api.Errno
	}{
		{0, 0, 1, api.ErrArg},
		{5, 2, 6, api.ErrArg},
		{5, 2, top, api.ErrArg},
		{5, 2, 1, api.ErrSuper},
		{5, 2, 2, api.OK},
		{5, 2, 5, api.OK},
	} {
		d, s := formatted(t, 4, 24)
		s.Set(api.Super{Segments: 4, Sectors: 24, Generation: x.known, Retired: x.retired})
		p := paired(t, d, api.Ring{Sectors: 24, Segs: []api.Seg{{}, sealed(x.g, 2), {}, {}}})
		frees(t, p, 1, x.want)
		if p.l.Broken() != (x.want != api.OK) {
			t.Errorf("%v: broken is %t", x, p.l.Broken())
		}
	}
}

// P9.3: what a freed segment held is read no more; the scan tells it, as the disk holds it, till the segment is opened anew.
func TestFreeHolds(t *testing.T) {
	p := fresh(t, 4, 24)
	var l []api.Address
	for i := range 3 {
		l = append(l, p.appends(t, item(17, uint64(i+1))))
	}
	p.free(t, 0)
	refuses(t, p.l, l[0], api.ErrNone)
	reads(t, p.l, l[1], item(17, 2))
	scans(t, p.d, p.l.Super(), 0, scanOf(0, 1, item(17, 1)))
	p.appends(t, item(17, 4))
	scans(t, p.d, p.l.Super(), 0, scanOf(0, 1, item(17, 1)))
	p.appends(t, item(1, 5))
	if a := p.appends(t, item(17, 6)); a != (api.Address{Segment: 0, Generation: 5, Sector: 1}) {
		t.Fatalf("the record stands at %v", a)
	}
	scans(t, p.d, p.l.Super(), 0, scanOf(0, 5, item(17, 6)))
	refuses(t, p.l, l[0], api.ErrNone)
	reads(t, p.l, api.Address{Segment: 0, Generation: 5, Sector: 1}, item(17, 6))
}

// P9.3: what is synced stays, whatever survives; what is not may go.
func TestSync(t *testing.T) {
	p := fresh(t, 4, 24)
	if err := p.sync(t); err != api.OK {
		t.Fatalf("Sync of an empty log is error %d", err)
	}
	p.appends(t, item(2, 1))
	p.appends(t, item(3, 2))
	if err := p.sync(t); err != api.OK {
		t.Fatalf("Sync is error %d", err)
	}
	p.appends(t, item(1, 3))
	choices(p.d, func(d *disk.Disk) {
		s, _ := super.Open(d)
		x, _ := log.Scan(s, 0)
		if !sameScan(x, scanOf(0, 1, item(2, 1), item(3, 2))) && !sameScan(x, scanOf(0, 1, item(2, 1), item(3, 2), item(1, 3))) {
			t.Errorf("Scan behind a crash is %v", x)
		}
	})
	if err := p.sync(t); err != api.OK || len(p.d.Pending()) != 0 {
		t.Errorf("Sync is error %d, pending %v", err, p.d.Pending())
	}
}

// choices tells each choice of what lives on of a disk's pending writes, on a copy of its own.
func choices(d *disk.Disk, tell func(c *disk.Disk)) {
	n := len(d.Pending())
	for mask := range 1 << n {
		keep := make([]bool, n)
		for i := range keep {
			keep[i] = mask>>i&1 != 0
		}
		c := d.Copy()
		c.Crash(keep)
		tell(c)
	}
}
