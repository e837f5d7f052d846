package log_test

import (
	"math"
	"slices"
	"testing"

	"icehouse/api"
	"icehouse/log"
	"icehouse/super"
)

// mixed is a pair with records of mixed counts of sectors in three segments, of which the first is free again.
func mixed(t *testing.T) (*pair, map[api.Address]api.Record) {
	t.Helper()
	p := fresh(t, 4, 24)
	live := map[api.Address]api.Record{}
	for i, count := range []int{17, 6, 1, 9, 2, 11, 3, 5, 8} {
		r := sized(min(48*count, 783)-i, uint64(i+1))
		if i == 1 {
			r = api.Record{Kind: api.RecordTomb, Seq: 2, Key: r.Key}
		}
		live[p.appends(t, r)] = r
	}
	p.free(t, 0)
	for a := range live {
		if a.Segment == 0 {
			delete(live, a)
		}
	}
	return p, live
}

// P9.4: every sector of every segment, of every generation, and those beside them: the record that was appended there, or ErrNone.
func TestReadAll(t *testing.T) {
	p, live := mixed(t)
	if len(live) < 5 {
		t.Fatalf("%d records live", len(live))
	}
	segments := []int{math.MinInt, -2, -1, 0, 1, 2, 3, 4, 5, 16, 1 << 32, 1<<32 + 1, math.MaxInt}
	sectors := []int{math.MinInt, math.MaxInt, 1 << 32, 1<<32 + 1}
	for i := -2; i < 28; i++ {
		sectors = append(sectors, i)
	}
	told := 0
	for _, segment := range segments {
		for _, g := range []uint64{0, 1, 2, 3, 4, 5, 1 << 32, 1<<32 + 2, top} {
			for _, sector := range sectors {
				a := api.Address{Segment: segment, Generation: g, Sector: sector}
				if r, ok := live[a]; ok {
					told++
					reads(t, p.l, a, r)
				} else {
					refuses(t, p.l, a, api.ErrNone)
				}
				p.reads(t, a)
			}
		}
	}
	if told != len(live) {
		t.Errorf("%d of %d were told", told, len(live))
	}
	if p.l.Broken() {
		t.Error("Read breaks the log")
	}
}

// P9.4: sector 0, 1, Used less one, Used, each of a segment of which so much is used, by one record and more.
func TestReadEdges(t *testing.T) {
	_, l := made(t, 4, 24)
	stands(t, l, item(3, 1), api.Address{Segment: 0, Generation: 1, Sector: 1})
	at := func(sector int) api.Address { return api.Address{Segment: 0, Generation: 1, Sector: sector} }
	for _, sector := range []int{-1, 0, 2, 3, 4, 5, 23, 24} {
		refuses(t, l, at(sector), api.ErrNone)
	}
	reads(t, l, at(1), item(3, 1))
	stands(t, l, item(1, 2), at(4))
	reads(t, l, at(4), item(1, 2))
	refuses(t, l, at(5), api.ErrNone)
	for sector := 5; sector < 24; sector++ {
		stands(t, l, item(1, uint64(sector)), at(sector))
		reads(t, l, at(sector), item(1, uint64(sector)))
		refuses(t, l, at(sector+1), api.ErrNone)
	}
	refuses(t, l, api.Address{Segment: 1, Generation: 0, Sector: 1}, api.ErrNone)
	refuses(t, l, api.Address{Segment: 1, Generation: 0, Sector: 0}, api.ErrNone)
	refuses(t, l, api.Address{Segment: 1, Generation: 0, Sector: -1}, api.ErrNone)
}

// P9.4: how much is used says the ring; where a record stands says the disk alone.
func TestReadUsed(t *testing.T) {
	d, l := made(t, 4, 24)
	stands(t, l, item(4, 1), api.Address{Segment: 0, Generation: 1, Sector: 1})
	stands(t, l, item(3, 2), api.Address{Segment: 0, Generation: 1, Sector: 5})
	for used := 1; used <= 24; used++ {
		s, _ := super.Open(d)
		x, err := log.Open(s, api.Ring{Sectors: 24, Segs: []api.Seg{sealed(1, used), {}, {}, {}}})
		if err != api.OK {
			t.Fatalf("Open: error %d", err)
		}
		for sector := range 26 {
			a := api.Address{Segment: 0, Generation: 1, Sector: sector}
			switch {
			case sector == 1 && used > 1:
				reads(t, x, a, item(4, 1))
			case sector == 5 && used > 5:
				reads(t, x, a, item(3, 2))
			default:
				refuses(t, x, a, api.ErrNone)
			}
		}
		// A ring that says another generation than the sectors do.
		x, _ = log.Open(s, api.Ring{Sectors: 24, Segs: []api.Seg{sealed(2, used), {}, {}, {}}})
		refuses(t, x, api.Address{Segment: 0, Generation: 1, Sector: 1}, api.ErrNone)
		refuses(t, x, api.Address{Segment: 0, Generation: 2, Sector: 1}, api.ErrNone)
	}
}

// P9.4: an address of a segment that was opened anew since is no more.
func TestReadElder(t *testing.T) {
	p := fresh(t, 4, 24)
	var all []api.Address
	for i := range 9 {
		if i >= 4 {
			p.free(t, i%4)
		}
		all = append(all, p.appends(t, item(17, uint64(i+1))))
		for k, a := range all {
			if k+4 > i {
				reads(t, p.l, a, item(17, uint64(k+1)))
			} else {
				refuses(t, p.l, a, api.ErrNone)
			}
		}
	}
}

// P9.4: a read of a record fails at each of its sectors: the disk's error; the Log is not broken, and goes on.
func TestReadFails(t *testing.T) {
	for count := 1; count <= 17; count++ {
		d, l := made(t, 4, 24)
		a, _ := l.Append(item(1, 1))
		a, _ = l.Append(item(count, 2))
		for n := range count {
			d.Fail(n)
			refuses(t, l, a, api.ErrIo)
			if l.Broken() {
				t.Fatal("a Read that fails breaks the Log")
			}
			reads(t, l, a, item(count, 2))
		}
		d.Fail(count)
		reads(t, l, a, item(count, 2))
		d.Fail(-1)
		if err := l.Sync(); err != api.OK {
			t.Errorf("Sync behind it is error %d", err)
		}
		if _, err := l.Append(item(1, 3)); err != api.OK {
			t.Errorf("Append behind it is error %d", err)
		}
	}
}

// P9.4: what there is not goes ahead of the disk's error, that goes ahead of no record standing there.
func TestReadOrder(t *testing.T) {
	d, l := made(t, 4, 24)
	stands(t, l, item(3, 1), api.Address{Segment: 0, Generation: 1, Sector: 1})
	l.Sync()
	none := []api.Address{{Segment: -1, Generation: 1, Sector: 1}, {Segment: 4, Generation: 1, Sector: 1}, {Segment: 0, Generation: 2, Sector: 1},
		{Segment: 0, Generation: 1, Sector: 0}, {Segment: 0, Generation: 1, Sector: 4}, {Segment: 1, Generation: 0, Sector: 1}}
	at := func(sector int) api.Address { return api.Address{Segment: 0, Generation: 1, Sector: sector} }
	for _, a := range none {
		d.Fail(0)
		refuses(t, l, a, api.ErrNone)
	}
	refuses(t, l, at(2), api.ErrIo)
	refuses(t, l, at(2), api.ErrNone)
	d.Arm(0)
	d.Sync()
	for _, a := range none {
		refuses(t, l, a, api.ErrNone)
	}
	for sector := 1; sector <= 3; sector++ {
		refuses(t, l, at(sector), api.ErrDead)
	}
	if l.Broken() {
		t.Error("a Read that fails breaks the Log")
	}
	d.Crash(nil)
	reads(t, l, at(1), item(3, 1))
	refuses(t, l, at(2), api.ErrNone)
}

// P9.4: Read writes nothing, and tells what is not synced, too.
func TestReadChangesNothing(t *testing.T) {
	d, l := made(t, 4, 24)
	a, _ := l.Append(item(9, 1))
	before, pending := held(d), d.Pending()
	if len(pending) != 9 {
		t.Fatalf("pending is %v", pending)
	}
	d.Arm(0)
	for range 5 {
		reads(t, l, a, item(9, 1))
	}
	if !slices.Equal(held(d), before) || !slices.Equal(d.Pending(), pending) {
		t.Error("Read changes the disk")
	}
}

// R3: what is answered is new memory.
func TestReadNewMemory(t *testing.T) {
	_, l := made(t, 4, 24)
	a, _ := l.Append(item(17, 1))
	r, _ := l.Read(a)
	for i := range r.Key {
		r.Key[i]++
	}
	for i := range r.Value {
		r.Value[i]++
	}
	reads(t, l, a, item(17, 1))
	r, _ = l.Read(a)
	if r.Key = append(r.Key, 1, 2, 3); !slices.Equal(r.Value, item(17, 1).Value) {
		t.Error("a record's lists share memory")
	}
}
