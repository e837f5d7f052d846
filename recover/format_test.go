package recover_test

import (
	"math"
	"slices"
	"testing"

	"icehouse/api"
	"icehouse/disk"
	"icehouse/recover"
	"icehouse/ring"
	"icehouse/super"
)

// P16.1: all counts of segments and Sectors that there may be, on a disk of just that size and on a greater one: a store without items, all segments free, and nothing pending.
func TestFormat(t *testing.T) {
	for segments := 4; segments <= 16; segments++ {
		for _, sectors := range []int{24, 25, 63, 64} {
			for _, more := range []int{0, 1, 700} {
				d := empty(t, 2+segments*sectors+more)
				s, err := recover.Format(d, free(segments, sectors), 7)
				is(t, err, api.OK)
				if s.Len() != 0 || s.Left() != 7 || s.Degraded() || !ring.Same(s.Log().Ring(), free(segments, sectors)) {
					t.Errorf("Len is %d, Left %d, the ring %v", s.Len(), s.Left(), s.Log().Ring())
				}
				if x := s.Log().Super(); x.Get() != (api.Super{Segments: segments, Sectors: sectors}) || x.Disk() != d {
					t.Errorf("known is %v", x.Get())
				}
				if d.Ops() != 3 || len(d.Pending()) > 0 {
					t.Errorf("the disk did %d operations, %v are pending", d.Ops(), d.Pending())
				}
				d.Crash(nil)
				if _, report := open(t, d, 7); report != (api.Report{}) {
					t.Errorf("behind a crash there is %v", report)
				}
			}
		}
	}
}

// P16.1: there can't be a disk for it: one sector less than is needed, and fewer; ErrFormat, and the disk is not asked, dead or not.
func TestFormatRoom(t *testing.T) {
	for _, x := range [][2]int{{4, 24}, {16, 64}, {5, 31}} {
		r := free(x[0], x[1])
		need := 2 + x[0]*x[1]
		for _, n := range []int{1, 2, 3, need / 2, need - 1} {
			d := empty(t, n)
			d.Fail(0)
			noFormat(t, d, r, 8, api.ErrFormat)
			_, err := d.Read(0)
			is(t, err, api.ErrIo) // nothing was asked of it ahead of that
			noFormat(t, dead(t, n), r, 8, api.ErrFormat)
		}
		d := empty(t, need)
		if _, err := recover.Format(d, r, 8); err != api.OK {
			t.Errorf("error %d", err)
		}
	}
}

// dead is a disk without power.
func dead(t *testing.T, sectors int) *disk.Disk {
	t.Helper()
	d := empty(t, sectors)
	d.Arm(0)
	is(t, d.Sync(), api.ErrDead)
	return d
}

// wrongRings are rings that may not be.
func wrongRings() []api.Ring {
	l := []api.Ring{{}, {Sectors: 24}}
	for _, segments := range []int{1, 2, 3, 17, 18, 32} {
		l = append(l, free(segments, 24))
	}
	for _, sectors := range []int{math.MinInt, -24, 0, 1, 23, 65, 1<<16 + 24, math.MaxInt} {
		l = append(l, free(4, sectors))
	}
	for _, x := range [][]api.Seg{
		{{State: 3, Generation: 1, Used: 1}},
		{{State: -1, Generation: 1, Used: 1}},
		{{Generation: 1}},
		{{Used: 1}},
		{{State: 2, Used: 1}},
		{{State: 2, Generation: 1}},
		{{State: 1, Generation: 1, Used: 25}},
		{{State: 1, Generation: 1, Used: 1}, {State: 1, Generation: 2, Used: 1}},
		{{State: 1, Generation: 1, Used: 1}, {State: 2, Generation: 2, Used: 1}},
		{{State: 2, Generation: 2, Used: 1}, {State: 2, Generation: 2, Used: 1}},
	} {
		r := free(4, 24)
		copy(r.Segs, x)
		l = append(l, r)
	}
	return l
}

// P16.1: rings that may not be: ErrRing goes ahead of a disk that is too small, dead, or fails, and the disk is not asked.
func TestFormatRing(t *testing.T) {
	for _, r := range wrongRings() {
		for _, n := range []int{1, 98, 2048} {
			d := empty(t, n)
			d.Fail(0)
			noFormat(t, d, r, 8, api.ErrRing)
			_, err := d.Read(0)
			is(t, err, api.ErrIo)
			noFormat(t, dead(t, n), r, 8, api.ErrRing)
			noFormat(t, d, r, 0, api.ErrArg)
		}
	}
}

// R3, P16.1: what the ring's segments are is not asked further: all are free; the ring that is handed in stays as it is, and is not kept.
func TestFormatSegments(t *testing.T) {
	for _, x := range [][]api.Seg{
		{{State: 1, Generation: 1, Used: 1}},
		{{State: 2, Generation: 7, Used: 24}, {State: 2, Generation: 5, Used: 3}, {}, {State: 1, Generation: math.MaxUint64, Used: 9}},
		{{State: 2, Generation: 4, Used: 1}, {State: 2, Generation: 3, Used: 2}, {State: 2, Generation: 2, Used: 3}, {State: 2, Generation: 1, Used: 4}},
	} {
		for _, d := range []*disk.Disk{empty(t, 98), full(t)} {
			was := free(4, 24)
			copy(was.Segs, x)
			r := api.Ring{Sectors: 24, Segs: lent(was.Segs, api.Seg{State: 9})}
			s, err := recover.Format(d, r, 8)
			is(t, err, api.OK)
			if !ring.Same(r, was) || r.Segs[:5][4] != (api.Seg{State: 9}) {
				t.Errorf("the ring that was handed in is %v", r)
			}
			for i := range r.Segs {
				r.Segs[i] = api.Seg{State: 2, Generation: 99, Used: 5}
			}
			if y := s.Log().Ring(); !ring.Same(y, free(4, 24)) || s.Len() != 0 {
				t.Errorf("the ring is %v", y)
			}
		}
	}
}

// P16.1: where something stood: the segments hold what they held, of which nothing is told; a superblock of a greater turn does not count any more.
func TestFormatAgain(t *testing.T) {
	for _, sectors := range []int{24, 30} {
		d := full(t)
		if sectors > 24 {
			d = crafted(t, api.Super{Segments: 4, Sectors: sectors, Generation: 90, Flush: 7})
			lay(t, d, sectors, 2, 80, put(0, "a", 9).Record)
		}
		was := heldBy(d)
		s, err := recover.Format(d, free(4, 24), 8)
		is(t, err, api.OK)
		now := heldBy(d)
		if !slices.Equal(now[2:], was[2:]) || now[0] == was[0] || now[1] != (api.Block{}) {
			t.Error("a segment, or none of the superblocks, was changed")
		}
		if x, turn, err := super.Decode(now[0]); x != (api.Super{Segments: 4, Sectors: 24}) || turn != 0 || err != api.OK {
			t.Errorf("known is %v, turn %d, error %d", x, turn, err)
		}
		for _, key := range []string{"a", "b", "c", "d", "e", "f", "g"} {
			if _, err := s.Get([]byte(key), 0); err != api.ErrNone || s.May([]byte(key)) {
				t.Errorf("%q is told", key)
			}
		}
		d.Crash(nil)
		if _, report := open(t, d, 8); report != (api.Report{}) {
			t.Errorf("behind a crash there is %v", report)
		}
	}
}

// P16.1: a store of a formatted disk works: what is put and synced is there behind a crash.
func TestFormatWorks(t *testing.T) {
	for _, d := range []*disk.Disk{empty(t, 98), empty(t, 2048)} {
		s, err := recover.Format(d, free(4, 24), 2)
		is(t, err, api.OK)
		is(t, s.Put(item("a", 5, 1)), api.OK)
		is(t, s.Put(item("b", 5, 2)), api.OK)
		is(t, s.Put(item("c", 5, 3)), api.ErrFull)
		is(t, s.Kill([]byte("a"), 4), api.OK)
		is(t, s.Put(item("c", 5, 5)), api.OK)
		is(t, s.Sync(), api.OK)
		is(t, s.Put(item("b", 6, 6)), api.OK)
		d.Crash(nil)
		s, report := open(t, d, 2)
		if report != (api.Report{Segments: 1, Items: 2, Tombs: 1, Gone: 1}) {
			t.Errorf("there is %v", report)
		}
		for _, x := range []api.Item{item("b", 5, 2), item("c", 5, 5)} {
			if y, err := s.Get(x.Key, 0); err != api.OK || !same(x, y) {
				t.Errorf("it is %s, error %d", told(y), err)
			}
		}
	}
}

// P16.1: a disk that fails at each of Format's operations, on which nothing or something stood: its error, and no store; once more it goes well.
func TestFormatFails(t *testing.T) {
	for _, make := range []func() *disk.Disk{func() *disk.Disk { return empty(t, 98) }, func() *disk.Disk { return full(t) }} {
		for n := range 3 {
			d := make()
			d.Fail(n)
			ops := d.Ops()
			noFormat(t, d, free(4, 24), 8, api.ErrIo)
			if d.Ops() != ops+n {
				t.Errorf("the disk did %d operations", d.Ops()-ops)
			}
			if _, err := recover.Format(d, free(4, 24), 8); err != api.OK {
				t.Errorf("once more: error %d", err)
			}
			open(t, d, 8)
		}
		d := make()
		d.Fail(3)
		if _, err := recover.Format(d, free(4, 24), 8); err != api.OK {
			t.Errorf("error %d", err)
		}
		_, err := d.Read(0)
		is(t, err, api.ErrIo)
	}
}

// P16.1: the power goes at each of Format's operations: ErrDead; behind the crash, whatever lives on, there is what was there, nothing, or no superblock. Behind OK nothing is left to be lost.
func TestFormatPowerGoes(t *testing.T) {
	for n := range 4 {
		d := full(t)
		is(t, d.Arm(n), api.OK)
		s, err := recover.Format(d, free(4, 24), 8)
		if n == 3 {
			is(t, err, api.OK)
			is(t, s.Sync(), api.ErrDead)
		} else if s != nil || err != api.ErrDead || !d.Dead() {
			t.Fatalf("Format, cut at %d, is a store: %t, error %d", n, s != nil, err)
		}
		noFormat(t, d, free(4, 24), 8, api.ErrDead)
		none(t, d, 8, api.ErrDead)
		for _, keep := range keeps(len(d.Pending())) {
			c := d.Copy()
			c.Crash(keep)
			if _, err := super.Open(c); err != api.OK {
				none(t, c, 8, api.ErrFormat)
				continue
			}
			_, report := open(t, c, 8)
			if was := (api.Report{Segments: 3, Items: 5, Tombs: 1, Gone: 3}); report != (api.Report{}) && (report != was || n == 3) {
				t.Errorf("cut at %d, of which %v lives on, there is %v", n, keep, report)
			}
		}
	}
}
