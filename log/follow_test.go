package log_test

import (
	"testing"

	"icehouse/api"
	"icehouse/disk"
	"icehouse/log"
	"icehouse/super"
)

// told is what was appended to a segment since it was opened under its generation, and how many of it were synced.
type told struct {
	generation uint64
	records    []api.Record
	safe       int
}

// life is a log through crashes, and what was done to it.
type life struct {
	d    *disk.Disk
	l    *log.Log
	segs []told
	// The greatest generation that was given, and the greatest that was retired.
	last, retired uint64
	// The segment that an Append which was cut would have opened, and its generation.
	under           int
	underGeneration uint64
	seq             uint64
	// Whether what was appended is not read at once, as that could be the operation that fails.
	unread bool
}

// born is the life of a disk that was just formatted.
func born(t *testing.T, segments, sectors int) *life {
	t.Helper()
	d, l := made(t, segments, sectors)
	return &life{d: d, l: l, segs: make([]told, segments), under: -1}
}

// copied is the same life on a copy of its disk; it goes on behind a crash alone.
func (x *life) copied() *life {
	c := *x
	c.d, c.l = x.d.Copy(), nil
	c.segs = append([]told(nil), x.segs...)
	return &c
}

// allSafe notes a sync.
func (x *life) allSafe() {
	for i := range x.segs {
		x.segs[i].safe = len(x.segs[i].records)
	}
}

// given notes a generation that was given to a segment.
func (x *life) given(t *testing.T, segment int, generation uint64) {
	t.Helper()
	if generation <= x.last {
		t.Fatalf("generation %d is given behind %d", generation, x.last)
	}
	x.last = generation
	x.segs[segment] = told{generation: generation}
}

// append appends a record of so many sectors, and tells its error.
func (x *life) append(t *testing.T, count int) api.Errno {
	t.Helper()
	before, known := x.l.Ring(), x.l.Super().Get().Generation
	x.seq++
	r := item(count, x.seq)
	a, err := x.l.Append(r)
	for i, s := range x.l.Ring().Segs {
		if s.State == api.SegOpen && s.Generation != x.segs[i].generation {
			x.allSafe()
			x.given(t, i, s.Generation)
		}
	}
	switch err {
	case api.OK:
		s := &x.segs[a.Segment]
		if a.Generation != s.generation {
			t.Fatalf("%v is of another generation than %d", a, s.generation)
		}
		s.records = append(append([]api.Record(nil), s.records...), r)
		if !x.unread {
			reads(t, x.l, a, r)
		}
	case api.ErrIo, api.ErrDead:
		m := &model{ring: before}
		if at := m.next(); at >= 0 {
			x.under, x.underGeneration = at, known+1
		}
	}
	return err
}

// sync syncs.
func (x *life) sync() api.Errno {
	err := x.l.Sync()
	if err == api.OK {
		x.allSafe()
	}
	return err
}

// free frees the oldest segment, if one is sealed.
func (x *life) free() api.Errno {
	m := &model{ring: x.l.Ring()}
	at := m.find(api.SegSealed, func(a, b uint64) bool { return a < b })
	if at < 0 {
		return api.OK
	}
	err := x.l.Free(at)
	if err == api.OK {
		x.allSafe()
		x.retired = m.ring.Segs[at].Generation
	}
	return err
}

// crash lets the power go, looks at what is told then, and goes on from there with the ring that chapter 16 asks for.
func (x *life) crash(t *testing.T, keep []bool) {
	t.Helper()
	x.d.Crash(keep)
	s, err := super.Open(x.d)
	if err != api.OK {
		t.Fatalf("super.Open behind a crash: error %d", err)
	}
	known := s.Get()
	if known.Generation < x.last || known.Retired < x.retired {
		t.Fatalf("behind a crash known is %v; given was %d, retired %d", known, x.last, x.retired)
	}
	r := free(known.Segments, known.Sectors)
	for i := range r.Segs {
		got, err := log.Scan(s, i)
		if err != api.OK {
			t.Fatalf("Scan(%d) behind a crash: error %d", i, err)
		}
		x.follows(t, i, got)
		if got.Generation > known.Generation {
			t.Fatalf("segment %d has a generation that is not known: %d", i, got.Generation)
		}
		if got.Generation > known.Retired {
			r.Segs[i] = sealed(got.Generation, got.Used)
		}
	}
	x.under, x.retired = -1, known.Retired
	if x.l, err = log.Open(s, r); err != api.OK {
		t.Fatalf("Open(%v) behind a crash: error %d", r, err)
	}
	x.readable(t, r)
}

// follows tells whether a scan behind a crash is a beginning of what was appended to that segment, with all that was synced; or, if the power went as the segment was opened, nothing behind a new header.
func (x *life) follows(t *testing.T, segment int, got api.Scan) {
	t.Helper()
	s := &x.segs[segment]
	if got.Generation != s.generation {
		if segment != x.under || got.Generation != x.underGeneration || len(got.Records) > 0 || got.Used != 1 {
			t.Fatalf("segment %d, of generation %d, tells %v", segment, s.generation, got)
		}
		x.given(t, segment, got.Generation)
		return
	}
	if got.Generation == 0 {
		if !sameScan(got, api.Scan{}) {
			t.Fatalf("segment %d, never opened, tells %v", segment, got)
		}
		return
	}
	n := len(got.Records)
	if n < s.safe || n > len(s.records) || !sameScan(got, scanOf(segment, s.generation, s.records[:n]...)) {
		t.Fatalf("segment %d tells %v; of %v %d were synced", segment, got, s.records, s.safe)
	}
	s.records, s.safe = s.records[:n], n
}

// readable tells whether all that counts is read.
func (x *life) readable(t *testing.T, r api.Ring) {
	t.Helper()
	for i, s := range r.Segs {
		at := 1
		for _, want := range x.segs[i].records {
			a := api.Address{Segment: i, Generation: x.segs[i].generation, Sector: at}
			if s.State == api.SegFree {
				refuses(t, x.l, a, api.ErrNone)
			} else {
				reads(t, x.l, a, want)
			}
			at += need(want)
		}
	}
}

// lap is what takes a log of 4 segments of 24 sectors round once, and some way of the second time: segments are filled, short of their end and to it, and the oldest is freed when none is.
func lap() []func(t *testing.T, x *life) api.Errno {
	add := func(count int) func(t *testing.T, x *life) api.Errno {
		return func(t *testing.T, x *life) api.Errno { t.Helper(); return x.append(t, count) }
	}
	sync := func(t *testing.T, x *life) api.Errno { return x.sync() }
	drop := func(t *testing.T, x *life) api.Errno { return x.free() }
	var out []func(t *testing.T, x *life) api.Errno
	for i := range 7 {
		if i >= 4 {
			out = append(out, drop)
		}
		out = append(out, add(1), add(2), sync, add(12), sync, add(3), add(1))
		if i%2 == 0 {
			out = append(out, add(2), add(2))
		}
	}
	return out
}

// short is what is done behind a crash: the oldest is freed when none is free, a segment is opened, and what goes into it is synced in part.
func short() []func(t *testing.T, x *life) api.Errno {
	return []func(t *testing.T, x *life) api.Errno{
		func(t *testing.T, x *life) api.Errno { return x.free() },
		func(t *testing.T, x *life) api.Errno { t.Helper(); return x.append(t, 2) },
		func(t *testing.T, x *life) api.Errno { return x.sync() },
		func(t *testing.T, x *life) api.Errno { t.Helper(); return x.append(t, 1) },
		func(t *testing.T, x *life) api.Errno { t.Helper(); return x.append(t, 2) },
	}
}

// work does these things, up to the first that fails, and tells whether one did.
func (x *life) work(t *testing.T, l []func(t *testing.T, x *life) api.Errno) bool {
	t.Helper()
	for _, do := range l {
		if err := do(t, x); err == api.ErrDead || err == api.ErrIo {
			return true
		} else if err != api.OK {
			t.Fatalf("error %d", err)
		}
	}
	return false
}

// crashes tells this life behind a crash of each choice of what lives on, if there are at most so many; else behind some of them, the least and the most among these.
func (x *life) crashes(t *testing.T, most int, w *drawn, tell func(c *life)) {
	t.Helper()
	n := len(x.d.Pending())
	all := 1 << min(n, 30)
	for i := range min(all, most) {
		mask := i
		if all > most {
			switch i {
			case 0, 1:
				mask = -i
			default:
				mask = w.pick(all)
			}
		}
		keep := make([]bool, n)
		for k := range keep {
			keep[k] = mask>>k&1 != 0
		}
		c := x.copied()
		c.crash(t, keep)
		tell(c)
	}
}

// P9.6: the power goes at each write and sync of a lap, with each choice of what lives on; and once more at each step behind some of these crashes.
func TestCrashEach(t *testing.T) {
	w := drawer(3)
	states := 0
	for n := 0; ; n++ {
		x := born(t, 4, 24)
		x.d.Arm(n)
		cut := x.work(t, lap())
		x.crashes(t, 128, w, func(c *life) {
			states++
			if states%61 > 0 {
				return
			}
			for m := 0; ; m++ {
				again := c.copied()
				again.crash(t, nil)
				again.d.Arm(m)
				cutAgain := again.work(t, short())
				again.crashes(t, 16, w, func(last *life) { states++; last.work(t, short()) })
				if !cutAgain {
					break
				}
			}
		})
		if !cut {
			break
		}
	}
	if states < 10000 {
		t.Errorf("%d crashes", states)
	}
}

// P9.6: a disk's operation fails at each place of a lap, and then the power goes, with each choice of what lives on.
func TestFailEach(t *testing.T) {
	w := drawer(5)
	for n := 0; ; n++ {
		x := born(t, 4, 24)
		x.unread = true
		x.d.Fail(n)
		cut := x.work(t, lap())
		if cut != x.l.Broken() {
			t.Fatalf("cut is %t, broken %t", cut, x.l.Broken())
		}
		x.crashes(t, 32, w, func(c *life) {
			if c.work(t, short()) {
				t.Fatal("the disk fails behind a crash")
			}
		})
		if !cut {
			break
		}
	}
}

// P9.6: long runs of all that is done to a log, through crashes and failures, on rings of several sizes.
func TestRuns(t *testing.T) {
	for seed := range 40 {
		w := drawer(1000 + seed)
		x := born(t, 4+seed%5, 24+8*(seed%4))
		crashes := 0
		for range 400 {
			cut := false
			switch w.pick(24) {
			case 0:
				x.d.Arm(w.pick(30))
			case 1:
				cut = x.sync() != api.OK
			case 2:
				cut = x.free() != api.OK
			case 3:
				cut = w.pick(4) == 0
			default:
				err := x.append(t, 1+w.pick(1+w.pick(17)))
				if err == api.ErrFull {
					err = x.free()
				}
				cut = err != api.OK
			}
			if cut {
				keep := make([]bool, len(x.d.Pending()))
				for i := range keep {
					keep[i] = w.pick(3) > 0
				}
				x.crash(t, keep)
				crashes++
			}
		}
		if crashes < 5 || x.last < 8 {
			t.Errorf("run %d: %d crashes, %d generations", seed, crashes, x.last)
		}
	}
}

// P9.2 to P9.5: long runs on a log and its model, with failures and crashes: the same answers, rings, disks all the way.
func TestModelRuns(t *testing.T) {
	for seed := range 24 {
		w := drawer(seed)
		p := fresh(t, 4+seed%3, 24+seed)
		for range 250 {
			modelStep(t, w, p)
			if p.l.Broken() {
				keep := make([]bool, len(p.d.Pending()))
				for i := range keep {
					keep[i] = w.pick(2) == 0
				}
				p.d.Crash(keep)
				p = paired(t, p.d, behind(p))
			}
		}
		p.scans(t)
	}
}

// modelStep does one thing.
func modelStep(t *testing.T, w *drawn, p *pair) {
	t.Helper()
	switch w.pick(40) {
	case 0:
		p.cut(w.pick(12), true)
	case 1:
		p.cut(w.pick(12), false)
	}
	switch w.pick(10) {
	case 0:
		p.sync(t)
	case 1, 2:
		p.free(t, w.pick(len(p.m.ring.Segs)+2)-1)
	case 3:
		if _, err := p.append(t, wrongs()[w.pick(len(wrongs()))]); err != api.ErrRecord {
			t.Fatalf("Append of no record is error %d", err)
		}
	default:
		p.append(t, sized(22+w.pick(1+w.pick(762)), uint64(1+w.pick(1000))))
	}
	if p.d.Dead() || p.l.Broken() {
		return
	}
	p.whole()
	at := w.pick(len(p.m.ring.Segs))
	for range 5 {
		p.reads(t, api.Address{Segment: at, Generation: p.m.ring.Segs[at].Generation, Sector: w.pick(p.m.ring.Sectors + 1)})
	}
	if w.pick(8) == 0 {
		p.scans(t)
	}
}

// behind is the ring behind a crash: what the scans tell of generations that count.
func behind(p *pair) api.Ring {
	s, _ := super.Open(p.d)
	known := s.Get()
	r := free(known.Segments, known.Sectors)
	for i := range r.Segs {
		x, _ := log.Scan(s, i)
		if x.Generation > known.Retired && x.Generation <= known.Generation {
			r.Segs[i] = sealed(x.Generation, x.Used)
		}
	}
	return r
}
