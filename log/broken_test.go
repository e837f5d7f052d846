package log_test

import (
	"testing"

	"icehouse/api"
	"icehouse/log"
)

// situation is a log to which something was done, and the records that it holds.
type situation struct {
	p    *pair
	live map[api.Address]api.Record
}

// situations are makers of logs: empty, with some sectors left, with one left, with none, with a free segment that held elder records, full.
func situations(t *testing.T) []func() situation {
	put := func(s situation, counts ...int) situation {
		for _, count := range counts {
			r := item(count, uint64(len(s.live)+1))
			s.live[s.p.appends(t, r)] = r
		}
		return s
	}
	start := func() situation { return situation{fresh(t, 4, 24), map[api.Address]api.Record{}} }
	drop := func(s situation, segment int) situation {
		s.p.free(t, segment)
		for a := range s.live {
			if a.Segment == segment {
				delete(s.live, a)
			}
		}
		return s
	}
	return []func() situation{
		start,
		func() situation { return put(start(), 2) },
		func() situation { return put(start(), 17, 5) },
		func() situation { return put(start(), 17, 6) },
		func() situation { return put(start(), 17, 17, 4) },
		func() situation { s := put(start(), 17, 17); s.p.sync(t); return s },
		func() situation { return drop(put(start(), 17, 17, 17, 17, 3), 0) },
		func() situation { return put(start(), 17, 17, 17, 17, 6) },
		func() situation { s := put(start(), 17, 17, 17); s.p = sealedAnew(t, s.p); return s },
	}
}

// deeds are what can be done to a log.
func deeds() []func(t *testing.T, p *pair) api.Errno {
	add := func(count int) func(t *testing.T, p *pair) api.Errno {
		return func(t *testing.T, p *pair) api.Errno {
			t.Helper()
			_, err := p.append(t, item(count, 77))
			return err
		}
	}
	return []func(t *testing.T, p *pair) api.Errno{
		add(1), add(2), add(3), add(17),
		func(t *testing.T, p *pair) api.Errno { t.Helper(); return p.sync(t) },
		func(t *testing.T, p *pair) api.Errno { t.Helper(); return p.free(t, 0) },
		func(t *testing.T, p *pair) api.Errno { t.Helper(); return p.free(t, 1) },
	}
}

// P9.2, P9.3: each deed in each situation is cut at each of its operations, by ErrIo or as the power goes: the disk's error, what was done ahead of it and no more (as the model has it), and a Log that is broken from then on. With nothing left to cut it goes on.
func TestCut(t *testing.T) {
	cuts := 0
	for _, make := range situations(t) {
		for _, do := range deeds() {
			for _, fails := range []bool{true, false} {
				for n := 0; ; n++ {
					s := make()
					s.p.cut(n, fails)
					err := do(t, s.p)
					if err == api.OK || err == api.ErrFull || err == api.ErrState {
						s.p.whole()
						works(t, s)
						break
					}
					want := api.ErrDead
					if fails {
						want = api.ErrIo
					}
					if err != want || !s.p.l.Broken() {
						t.Fatalf("cut at %d: error %d, broken %t", n, err, s.p.l.Broken())
					}
					cuts++
					broken(t, s)
				}
			}
		}
	}
	if cuts < 200 {
		t.Errorf("%d cuts", cuts)
	}
}

// works tells whether a log is not broken, and goes on.
func works(t *testing.T, s situation) {
	t.Helper()
	if s.p.l.Broken() {
		t.Fatal("the log is broken")
	}
	for a, r := range s.live {
		if s.p.m.ring.Segs[a.Segment].Generation == a.Generation {
			reads(t, s.p.l, a, r)
		}
	}
	if err := s.p.sync(t); err != api.OK {
		t.Fatalf("Sync is error %d", err)
	}
	s.p.scans(t)
}

// broken tells whether a log is a broken one, and stays it: at once, without power, and behind a crash.
func broken(t *testing.T, s situation) {
	t.Helper()
	refusing(t, s.p)
	if !s.p.d.Dead() {
		telling(t, s)
		return
	}
	for a := range s.live {
		if s.p.m.ring.Segs[a.Segment].Generation == a.Generation {
			refuses(t, s.p.l, a, api.ErrDead)
		}
	}
	if _, err := log.Scan(s.p.l.Super(), 0); err != api.ErrDead {
		t.Fatalf("Scan is error %d", err)
	}
	keep := make([]bool, len(s.p.d.Pending()))
	for i := range keep {
		keep[i] = true
	}
	s.p.d.Crash(keep)
	s.p.m.disk.Crash(keep)
	refusing(t, s.p)
	telling(t, s)
}

// refusing tells whether a broken log takes nothing: not a record that would need a segment, nor one that would not, and which error goes ahead.
func refusing(t *testing.T, p *pair) {
	t.Helper()
	ops := p.d.Ops()
	for _, count := range []int{1, 17} {
		if a, err := p.append(t, item(count, 88)); a != (api.Address{}) || err != api.ErrIo {
			t.Fatalf("Append to a broken log is %v, error %d", a, err)
		}
	}
	if a, err := p.append(t, api.Record{}); a != (api.Address{}) || err != api.ErrRecord {
		t.Fatalf("Append of no record to a broken log is %v, error %d", a, err)
	}
	if err := p.sync(t); err != api.ErrIo {
		t.Fatalf("Sync of a broken log is error %d", err)
	}
	for i := range 4 {
		if err := p.free(t, i); err != api.ErrIo {
			t.Fatalf("Free(%d) of a broken log is error %d", i, err)
		}
	}
	for _, i := range outside(4) {
		if err := p.free(t, i); err != api.ErrArg {
			t.Fatalf("Free(%d) of a broken log is error %d", i, err)
		}
	}
	if p.d.Ops() != ops || !p.l.Broken() {
		t.Fatal("a broken log asks its disk")
	}
}

// telling tells whether a broken log whose disk can be read tells what it holds.
func telling(t *testing.T, s situation) {
	t.Helper()
	for a, r := range s.live {
		if s.p.m.ring.Segs[a.Segment].Generation == a.Generation {
			reads(t, s.p.l, a, r)
		}
	}
	for i := range 4 {
		for sector := range 26 {
			s.p.reads(t, api.Address{Segment: i, Generation: s.p.m.ring.Segs[i].Generation, Sector: sector})
		}
	}
	s.p.scans(t)
	refusing(t, s.p)
}

// P9.2: which operations an Append does, and in which order: without an opening the record's sectors alone; with one first what is known, a sync, the header, a sync, and then the sectors.
func TestAppendOps(t *testing.T) {
	d, l := made(t, 4, 24)
	ops := d.Ops()
	l.Append(item(5, 1))
	if n := d.Ops() - ops; n != 4+5 {
		t.Errorf("an Append that opens a segment does %d operations", n)
	}
	want := []int{2 + 1, 2 + 2, 2 + 3, 2 + 4, 2 + 5}
	if p := d.Pending(); len(p) != 5 || p[0] != want[0] || p[4] != want[4] {
		t.Errorf("pending is %v", p)
	}
	ops = d.Ops()
	l.Append(item(3, 2))
	if n := d.Ops() - ops; n != 3 {
		t.Errorf("an Append that opens none does %d operations", n)
	}
	for n := range 4 {
		d, l := made(t, 4, 24)
		d.Arm(n)
		if _, err := l.Append(item(1, 1)); err != api.ErrDead {
			t.Fatalf("Append is error %d", err)
		}
		x := l.Super().Get()
		p := d.Pending()
		switch n {
		case 0:
			if x.Generation != 0 || len(p) != 0 {
				t.Errorf("cut at 0: %v, %v", x, p)
			}
		case 1:
			if x.Generation != 0 || len(p) != 1 || p[0] > 1 {
				t.Errorf("cut at 1: %v, %v", x, p)
			}
		case 2:
			if x.Generation != 1 || len(p) != 0 {
				t.Errorf("cut at 2: %v, %v", x, p)
			}
		case 3:
			if x.Generation != 1 || len(p) != 1 || p[0] != 2 {
				t.Errorf("cut at 3: %v, %v", x, p)
			}
		}
		if s := l.Ring().Segs[0]; s != (api.Seg{}) {
			t.Errorf("cut at %d: the segment is %v", n, s)
		}
	}
}

// P9.2: an Append that is cut behind an opening leaves the segment open, with nothing used but its header; one that is cut in it leaves the elder one sealed, and none open.
func TestAppendCutRing(t *testing.T) {
	for n := range 4 + 17 {
		d, l := made(t, 4, 24)
		stands(t, l, item(17, 1), api.Address{Segment: 0, Generation: 1, Sector: 1})
		d.Fail(n)
		if _, err := l.Append(item(17, 2)); err != api.ErrIo {
			t.Fatalf("Append is error %d", err)
		}
		want := []api.Seg{sealed(1, 18), {}, {}, {}}
		if n >= 4 {
			want[1] = api.Seg{State: api.SegOpen, Generation: 2, Used: 1}
		}
		if r := l.Ring(); !sameRing(r, api.Ring{Sectors: 24, Segs: want}) {
			t.Errorf("cut at %d: the ring is %v", n, r)
		}
		refuses(t, l, api.Address{Segment: 1, Generation: 2, Sector: 1}, api.ErrNone)
	}
}

// P9.3: a Log that is not asked is not broken by its disk; the first that asks it is.
func TestBrokenByAsking(t *testing.T) {
	d, l := made(t, 4, 24)
	stands(t, l, item(1, 1), api.Address{Segment: 0, Generation: 1, Sector: 1})
	d.Arm(0)
	d.Sync()
	if l.Broken() {
		t.Error("the Log is broken")
	}
	if _, err := l.Append(api.Record{}); err != api.ErrRecord || l.Broken() {
		t.Errorf("Append of no record is error %d, broken %t", err, l.Broken())
	}
	if err := l.Free(0); err != api.ErrState || l.Broken() {
		t.Errorf("Free of the open one is error %d, broken %t", err, l.Broken())
	}
	if err := l.Sync(); err != api.ErrDead || !l.Broken() {
		t.Errorf("Sync is error %d, broken %t", err, l.Broken())
	}
	if err := l.Sync(); err != api.ErrIo {
		t.Errorf("Sync is error %d", err)
	}
}
