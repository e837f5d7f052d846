package recover_test

import (
	"math"
	"testing"

	"icehouse/api"
	"icehouse/disk"
	"icehouse/recover"
)

// example is the chapter's: what is known, and the scans.
func example() (api.Super, []api.Scan) {
	x := api.Super{Segments: 4, Sectors: 24, Generation: 3, Retired: 1}
	return x, []api.Scan{
		scan(2, put(1, "a", 5), put(2, "b", 6)),
		{},
		scan(3, killed(1, "a", 7), put(2, "c", 8)),
		scan(1, put(1, "d", 1)),
	}
}

// The chapter's examples: P16.2, P16.3.
func TestExamples(t *testing.T) {
	x, l := example()
	r, err := ringOf(t, x, l)
	is(t, err, api.OK)
	for i, state := range []int{api.SegSealed, api.SegFree, api.SegSealed, api.SegFree} {
		if r.Segs[i].State != state {
			t.Errorf("segment %d is %v", i, r.Segs[i])
		}
	}
	lives(t, x, l, api.Report{Segments: 2, Items: 2, Tombs: 1, Gone: 1}, "b", "c")
	x.Flush = 6
	lives(t, x, l, api.Report{Segments: 2, Items: 1, Tombs: 1, Gone: 2}, "c")
	d := empty(t, 98)
	none(t, d, 8, api.ErrFormat)
	none(t, d, 0, api.ErrArg)
	none(t, nil, 8, api.ErrNil)
}

// lives asks for just that report, and for the items of these keys, in that order.
func lives(t *testing.T, x api.Super, l []api.Scan, want api.Report, keys ...string) []api.Placed {
	t.Helper()
	live, report, err := judge(t, x, l)
	if report != want || err != api.OK || len(live) != len(keys) {
		t.Fatalf("Judge is %v, %v, error %d; the test asks for %q, %v", live, report, err, keys, want)
	}
	for i, p := range live {
		if string(p.Record.Key) != keys[i] {
			t.Fatalf("item %d is %q; the test asks for %q", i, p.Record.Key, keys[i])
		}
	}
	return live
}

// none asks for no store, zeros, and that error of Open.
func none(t *testing.T, d *disk.Disk, slots int, want api.Errno) {
	t.Helper()
	s, report, err := recover.Open(d, slots)
	if s != nil || report != (api.Report{}) || err != want {
		t.Fatalf("Open with %d slots is a store: %t, %v, error %d; the test asks for error %d", slots, s != nil, report, err, want)
	}
}

// noFormat asks for no store, and that error of Format.
func noFormat(t *testing.T, d *disk.Disk, r api.Ring, slots int, want api.Errno) {
	t.Helper()
	if s, err := recover.Format(d, r, slots); s != nil || err != want {
		t.Fatalf("Format of %v with %d slots is a store: %t, error %d; the test asks for error %d", r, slots, s != nil, err, want)
	}
}

// is asks for a call's error.
func is(t *testing.T, err, want api.Errno) {
	t.Helper()
	if err != want {
		t.Fatalf("error %d; the test asks for %d", err, want)
	}
}

// empty is a new disk.
func empty(t *testing.T, sectors int) *disk.Disk {
	t.Helper()
	d, err := disk.New(sectors)
	is(t, err, api.OK)
	return d
}

// few and many are numbers of slots that there may be, and that there may not be.
var (
	few  = []int{1, 2, 3, 100, api.MaxSlots - 1, api.MaxSlots}
	many = []int{math.MinInt, math.MinInt32, -1024, -2, -1, 0, api.MaxSlots + 1, 2 * api.MaxSlots, 1 << 16, 1 << 32, 1<<32 + 1, math.MaxInt}
)

// R4, P16.1, P16.2: nil goes ahead of all else, whatever else is handed in.
func TestNil(t *testing.T) {
	for _, slots := range append(few, many...) {
		none(t, nil, slots, api.ErrNil)
		for _, r := range []api.Ring{{}, free(4, 24), free(3, 24)} {
			noFormat(t, nil, r, slots, api.ErrNil)
		}
	}
}

// free is a ring of so many segments, all free.
func free(segments, sectors int) api.Ring {
	return api.Ring{Sectors: sectors, Segs: make([]api.Seg, segments)}
}

// P16.1, P16.2: wrong counts of slots go ahead of what is wrong with the ring, or with the disk, and the disk is not asked.
func TestSlots(t *testing.T) {
	dead := empty(t, 98)
	dead.Arm(0)
	dead.Sync()
	failing := empty(t, 98)
	failing.Fail(0)
	for _, d := range []*disk.Disk{empty(t, 1), empty(t, 98), dead, failing, full(t)} {
		ops, held := d.Ops(), heldBy(d)
		for _, slots := range many {
			none(t, d, slots, api.ErrArg)
			for _, r := range []api.Ring{{}, free(4, 24), free(3, 24)} {
				noFormat(t, d, r, slots, api.ErrArg)
			}
		}
		if d.Ops() != ops || len(d.Pending()) > 0 || !sameHeld(heldBy(d), held) {
			t.Error("a disk was changed")
		}
	}
	for _, slots := range few {
		d := empty(t, 98)
		for range 2 {
			s, err := recover.Format(d, free(4, 24), slots)
			is(t, err, api.OK)
			if s.Len() != 0 || s.Left() != slots {
				t.Errorf("with %d slots Len is %d, Left %d", slots, s.Len(), s.Left())
			}
			s, report := open(t, d, slots)
			if s.Len() != 0 || s.Left() != slots || report != (api.Report{}) {
				t.Errorf("with %d slots Len is %d, Left %d, %v", slots, s.Len(), s.Left(), report)
			}
		}
	}
}
