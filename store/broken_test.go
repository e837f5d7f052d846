package store_test

import (
	"slices"
	"testing"

	"icehouse/api"
	"icehouse/log"
	"icehouse/ring"
	"icehouse/store"
)

// situations are makers of stores, in each of which a has an item.
func situations(t *testing.T) []func() *watched {
	put := func(w *watched, items ...api.Item) *watched {
		for i, x := range items {
			x.Seq = uint64(i + 1)
			ok(t, w.put(t, x))
		}
		return w
	}
	a := item("a", 60, 1)
	return []func() *watched{
		func() *watched { return put(fresh(t, 4, 24, 8), a) },
		func() *watched { w := put(fresh(t, 4, 24, 8), a); ok(t, w.sync(t)); return w },
		func() *watched { w := put(fresh(t, 4, 24, 8), a); ok(t, w.sync(t)); return w.crash(t, nil) },
		func() *watched { return put(fresh(t, 4, 24, 8), sized("x", 17, 1), a, item("b", 200, 1)) },
		func() *watched { return put(fresh(t, 4, 24, 8), a, sized("x", 17, 1), sized("y", 17, 1)) },
		func() *watched { return put(fresh(t, 4, 24, 2), a, item("b", 0, 1)) },
		func() *watched {
			return put(fresh(t, 4, 24, 8), a, sized("x", 17, 1), sized("y", 17, 1), sized("z", 17, 1), sized("w", 17, 1))
		},
		func() *watched {
			w := put(fresh(t, 4, 24, 8), item("b", 9, 1), a, sized("x", 17, 1))
			ok(t, w.flush(t, 1))
			ok(t, w.kill(t, "c", 9))
			return w
		},
	}
}

// does is what can be done to a store.
func does() []func(t *testing.T, w *watched) api.Errno {
	return []func(t *testing.T, w *watched) api.Errno{
		func(t *testing.T, w *watched) api.Errno { t.Helper(); return w.put(t, item("new", 5, 70)) },
		func(t *testing.T, w *watched) api.Errno { t.Helper(); return w.put(t, sized("new", 17, 70)) },
		func(t *testing.T, w *watched) api.Errno { t.Helper(); return w.put(t, item("a", 5, 70)) },
		func(t *testing.T, w *watched) api.Errno { t.Helper(); return w.put(t, item("a", 500, 70)) },
		func(t *testing.T, w *watched) api.Errno { t.Helper(); _, err := w.get(t, "a", 0); return err },
		func(t *testing.T, w *watched) api.Errno { t.Helper(); _, err := w.get(t, "none", 0); return err },
		func(t *testing.T, w *watched) api.Errno { t.Helper(); return w.kill(t, "a", 70) },
		func(t *testing.T, w *watched) api.Errno { t.Helper(); return w.kill(t, "none", 70) },
		func(t *testing.T, w *watched) api.Errno { t.Helper(); return w.flush(t, 70) },
		func(t *testing.T, w *watched) api.Errno { t.Helper(); return w.sync(t) },
		func(t *testing.T, w *watched) api.Errno { t.Helper(); return w.move(t, liveOf(t, w, "a")) },
		func(t *testing.T, w *watched) api.Errno { t.Helper(); return w.retire(t, 0) },
		func(t *testing.T, w *watched) api.Errno { t.Helper(); return w.retire(t, 1) },
	}
}

// liveOf is the key's record that is live, found without asking the disks.
func liveOf(t *testing.T, w *watched, key string) api.Placed {
	t.Helper()
	l := w.all(t)
	i := slices.IndexFunc(l, func(p api.Placed) bool { return string(p.Record.Key) == key && w.p.live(p) })
	if i < 0 {
		t.Fatalf("%q is not live", key)
	}
	return l[i]
}

// P14.2 to P14.6: each call in each situation is cut at each of its operations, by ErrIo or as the power goes: the disk's error, what was done ahead of it and no more (as the model has it). Behind a write or sync that failed the store is degraded, behind a read it goes on.
func TestCut(t *testing.T) {
	cuts, reads := 0, 0
	for _, make := range situations(t) {
		for _, do := range does() {
			for _, fails := range []bool{true, false} {
				for n := 0; ; n++ {
					w := make()
					a, want := liveOf(t, w, "a"), api.ErrDead
					if fails {
						want = api.ErrIo
						w.fail(n)
					} else {
						w.arm(n)
					}
					entries := slices.Clone(w.p.entries)
					err := do(t, w)
					if err != api.ErrIo && err != api.ErrDead {
						w.fail(-1)
						w.arm(-1)
						goesOn(t, w)
						break
					}
					is(t, err, want)
					if !slices.Equal(entries, w.p.entries) || w.s.Live(a) != w.p.live(a) {
						t.Fatal("an entry was changed beside an error")
					}
					cuts++
					if w.s.Degraded() {
						degraded(t, w, a)
						continue
					}
					reads++
					goesOn(t, w)
				}
			}
		}
	}
	if cuts < 400 || reads < 20 || reads > cuts/2 {
		t.Errorf("%d cuts, %d of them reads", cuts, reads)
	}
}

// goesOn tells whether a store that isn't degraded works.
func goesOn(t *testing.T, w *watched) {
	t.Helper()
	if w.s.Degraded() {
		t.Fatal("the store is degraded")
	}
	for _, p := range w.all(t) {
		w.get(t, string(p.Record.Key), 0)
	}
	ok(t, w.sync(t))
	ok(t, w.flush(t, 71))
	w.kill(t, "a", 80)
	w.holds(t)
}

// degraded tells whether a degraded store takes and tells nothing: at once, and behind a crash; a is live in it, or was. Behind the crash a new store goes on.
func degraded(t *testing.T, w *watched, a api.Placed) {
	t.Helper()
	refusing(t, w, a)
	w.d.Crash(nil)
	w.pd.Crash(nil)
	refusing(t, w, a)
	w = over(t, w.d, w.p.slots)
	goesOn(t, w)
}

// refusing asks a degraded store everything; none of it asks the disk. What is judged ahead of its being degraded is told still.
func refusing(t *testing.T, w *watched, a api.Placed) {
	t.Helper()
	ops, n, left := w.d.Ops(), w.s.Len(), w.s.Left()
	live, may := w.live(t, a), w.may(t, "a")
	is(t, w.put(t, item("a", 1, 90)), api.ErrIo)
	is(t, w.put(t, item("new", 1, 90)), api.ErrIo)
	is(t, w.put(t, item("", 1, 90)), api.ErrItem)
	is(t, w.put(t, item("a", 1, 0)), api.ErrItem)
	is(t, w.kill(t, "a", 90), api.ErrIo)
	is(t, w.kill(t, "", 90), api.ErrRecord)
	is(t, w.kill(t, "a", 0), api.ErrRecord)
	for _, key := range []string{"a", "b", "x", "none", "", string(make([]byte, 251))} {
		w.hasNone(t, key)
	}
	for _, seq := range []uint64{0, 1, 90, 1 << 63} {
		is(t, w.flush(t, seq), api.ErrIo)
	}
	is(t, w.sync(t), api.ErrIo)
	is(t, w.move(t, a), api.ErrIo)
	is(t, w.move(t, api.Placed{}), api.ErrIo)
	for i := range 4 {
		is(t, w.retire(t, i), api.ErrIo)
	}
	for _, i := range outside(4) {
		is(t, w.retire(t, i), api.ErrIo)
	}
	if w.d.Ops() != ops || !w.s.Degraded() || w.s.Len() != n || w.s.Left() != left {
		t.Fatalf("a degraded store asks the disk %d times; Len is %d, was %d", w.d.Ops()-ops, w.s.Len(), n)
	}
	if w.live(t, a) != live || w.may(t, "a") != may {
		t.Fatal("Live or May tell something else")
	}
}

// P14.2 to P14.6: a disk that is dead, which the store does not know as yet: the first call that asks it is told, and it is degraded if that was a write or a sync.
func TestDead(t *testing.T) {
	for _, make := range situations(t) {
		for _, do := range does() {
			w := make()
			a := liveOf(t, w, "a")
			w.arm(0)
			is(t, w.d.Sync(), api.ErrDead)
			is(t, w.pd.Sync(), api.ErrDead)
			if w.s.Degraded() {
				t.Fatal("it is degraded ahead of being told")
			}
			err := do(t, w)
			switch err {
			case api.ErrDead, api.ErrNone, api.ErrFull:
			default:
				t.Fatalf("error %d", err)
			}
			if w.s.Degraded() {
				degraded(t, w, a)
				continue
			}
			if _, err := w.get(t, "a", 0); err != api.ErrDead {
				t.Fatalf("Get is error %d", err)
			}
			w.hasNone(t, "none")
			is(t, w.sync(t), api.ErrDead)
			degraded(t, w, a)
		}
	}
}

// P14.4, P14.6: a Flush whose superblock could not be set: its error, and the store is degraded; its log is not broken, and another store over it is not degraded. Behind a crash the Flush counts, or not.
func TestFlushFails(t *testing.T) {
	for _, fails := range []bool{true, false} {
		for n := range 2 {
			for _, keep := range []bool{true, false} {
				w := fresh(t, 4, 24, 8)
				a := item("a", 5, 3)
				ok(t, w.put(t, a))
				ok(t, w.sync(t))
				p, want := w.placed(t, "a"), api.ErrDead
				if fails {
					want = api.ErrIo
					w.fail(n)
				} else {
					w.arm(n)
				}
				is(t, w.flush(t, 3), want)
				l := w.s.Log()
				if !w.s.Degraded() || l.Broken() || l.Super().Get().Flush != 0 {
					t.Fatalf("degraded %t, the log broken %t, known %v", w.s.Degraded(), l.Broken(), l.Super().Get())
				}
				refusing(t, w, p)
				if s, err := store.New(l, 8, []api.Placed{p}); err != api.OK || s.Degraded() {
					t.Fatalf("another store over the log: error %d", err)
				}
				w = w.crash(t, []bool{keep})
				if keep && n == 1 {
					w.hasNone(t, "a")
				} else {
					w.has(t, a)
				}
			}
		}
	}
}

// P14.4: a Flush that has nothing to do, or is refused, does not make the store a degraded one, whatever the disk is.
func TestFlushNothing(t *testing.T) {
	w := fresh(t, 4, 24, 8)
	ok(t, w.flush(t, 5))
	w.arm(0)
	is(t, w.d.Sync(), api.ErrDead)
	is(t, w.pd.Sync(), api.ErrDead)
	for _, seq := range []uint64{0, 4, 5} {
		ok(t, w.flush(t, seq))
	}
	if w.s.Degraded() {
		t.Error("the store is degraded")
	}
	is(t, w.flush(t, 6), api.ErrDead)
	is(t, w.flush(t, 5), api.ErrIo)
}

// P14.6: a log that somebody else breaks makes the store a degraded one.
func TestBrokenByOther(t *testing.T) {
	d := formatted(t, 4, 24)
	l, _ := logOf(t, d)
	s, _ := store.New(l, 8, nil)
	is(t, s.Put(item("a", 5, 1)), api.OK)
	d.Fail(0)
	is(t, l.Sync(), api.ErrIo)
	if _, err := s.Get([]byte("a"), 0); err != api.ErrNone || !s.Degraded() {
		t.Errorf("Get is error %d, degraded %t", err, s.Degraded())
	}
	is(t, s.Put(item("b", 5, 1)), api.ErrIo)
}

// P14.2, P14.4, P14.5: which operations a call does, and in which order.
func TestOps(t *testing.T) {
	d := formatted(t, 4, 24)
	l, _ := logOf(t, d)
	s, _ := store.New(l, 8, nil)
	count := func(do func() api.Errno) int {
		t.Helper()
		ops := d.Ops()
		ok(t, do())
		return d.Ops() - ops
	}
	asks := func(name string, got, want int) {
		t.Helper()
		if got != want {
			t.Errorf("%s: %d operations; asked are %d", name, got, want)
		}
	}
	asks("Put that opens a segment", count(func() api.Errno { return s.Put(item("a", 100, 1)) }), 4+3)
	asks("Put", count(func() api.Errno { return s.Put(item("b", 100, 2)) }), 3)
	asks("Put of what is there", count(func() api.Errno { return s.Put(item("b", 1, 3)) }), 3+1)
	asks("Get", count(func() api.Errno { _, err := s.Get([]byte("a"), 0); return err }), 3)
	asks("May", count(func() api.Errno { s.May([]byte("a")); return api.OK }), 0)
	asks("Kill", count(func() api.Errno { return s.Kill([]byte("a"), 4) }), 3+1+1)
	asks("Kill of what is not there", count(func() api.Errno { return s.Kill([]byte("a"), 5) }), 1+1)
	asks("Sync", count(s.Sync), 1)
	asks("Flush", count(func() api.Errno { return s.Flush(1) }), 2)
	asks("Len, Left", count(func() api.Errno { s.Len(); s.Left(); return api.OK }), 0)
	p := api.Placed{Address: api.Address{Segment: 0, Generation: 1, Sector: 7}, Record: record(item("b", 1, 3))}
	if !s.Live(p) {
		t.Fatal("b is not live")
	}
	asks("Move", count(func() api.Errno { return s.Move(p) }), 1)
	s.Put(sized("c", 17, 6))
	asks("Retire", count(func() api.Errno { return s.Retire(0) }), 1+2)
	if s.Len() != 1 || ring.Frees(l.Ring()) != 3 {
		t.Errorf("Len is %d", s.Len())
	}
}

// P14.5: Retire whose superblock could not be set breaks the log: nothing is gone that was there, but the store is degraded.
func TestRetireFails(t *testing.T) {
	for n := range 3 {
		w := fresh(t, 4, 24, 8)
		ok(t, w.put(t, sized("a", 17, 1)))
		ok(t, w.put(t, sized("b", 17, 2)))
		w.fail(n)
		is(t, w.retire(t, 0), api.ErrIo)
		if w.s.Len() != 2 || !w.s.Degraded() || !w.s.Log().Broken() {
			t.Errorf("Len is %d, degraded %t", w.s.Len(), w.s.Degraded())
		}
	}
}

// P14.2, P14.6: reading through the log tells what was put.
func TestSharedLog(t *testing.T) {
	w := fresh(t, 4, 24, 8)
	ok(t, w.put(t, item("a", 5, 1)))
	var l *log.Log = w.s.Log()
	r, err := l.Read(api.Address{Segment: 0, Generation: 1, Sector: 1})
	if err != api.OK || r.Kind != 1 || string(r.Key) != "a" || r.Seq != 1 || len(r.Value) != 5 {
		t.Errorf("it is %v, error %d", r, err)
	}
}
