package tier_test

import (
	"slices"
	"sync/atomic"
	"testing"

	"icehouse/api"
	"icehouse/disk"
	"icehouse/recover"
	"icehouse/store"
)

// crowded are situations, besides those of k, in which there is much to do: the log is full of what lives, so that room is made by moving and dropping; much that is put out goes there.
func crowded() []situation {
	return append(situations(), []situation{
		{name: "the log is full of what lives", make: func(t *testing.T, v string) *watched {
			w := fresh(t, plan{4, 24, 64, 6})
			for i := range 3 {
				w.oks(t, 100, set("great"+number(uint64(i)), long(512)), persist())
			}
			w.oks(t, 100, set("k", v, flags(7)), persist(), set("j", v), set("i", v))
			return w
		}, seq: 4, ram: true, may: true},
		{name: "the log is full of what lives, and a sequence is to be reserved", make: func(t *testing.T, v string) *watched {
			w := fresh(t, plan{4, 24, 64, 2})
			for i := range 3 {
				w.oks(t, 100, set("great"+number(uint64(i)), long(512)), persist())
			}
			w.oks(t, 100, set("k", v, flags(7)), persist(), set("great3", long(512)), persist())
			w.crash(t, nil)
			if w.p.frees() > 1 || w.p.entry("k") == nil || w.x.Seq() != w.p.given {
				t.Fatal("no room is to be made, or k is not there, or no sequence is to be reserved")
			}
			return w
		}, seq: 4, may: true},
		{name: "one segment is to be cleaned", make: func(t *testing.T, v string) *watched {
			w := putK(t, plan{4, 24, 64, 6}, v)
			w.oks(t, 100, persist(), set("a", long(400)), persist(), set("b", long(512)), persist(), set("c", long(512)), persist(), ask(api.OpDelete, "b"), set("j", v))
			return w
		}, seq: 1, ram: true, may: true},
		{name: "much is put out", make: func(t *testing.T, v string) *watched {
			w := fresh(t, plan{4, 24, 64, 1})
			w.oks(t, 100, set("k", v, flags(7)), persist(), set("i", ""), set("j", ""), persist())
			w.oks(t, 100, set("a", ""), set("b", ""), set("c", ""), ask(api.OpTouch, "j"))
			return w
		}, seq: 1, may: true},
	}...)
}

// spent is the situation in which all that is reserved was given.
func spent() situation {
	return situation{name: "all that is reserved was given", make: func(t *testing.T, v string) *watched {
		w := fresh(t, one)
		for w.x.Seq() < 1023 {
			w.quick(t, set("j", v), 100)
		}
		w.oks(t, 100, set("k", v, flags(7)))
		w.crash(t, all(w.d))
		w.oks(t, 100, set("k", v, flags(7)), persist())
		for w.x.Seq() < 2047 {
			w.quick(t, set("i", "x"), 100)
		}
		return w
	}, seq: 1025, ram: true, may: true}
}

// deeds are requests of all commands, those alone that can do something.
func deeds(seq uint64) []api.Request {
	return []api.Request{
		get("k"), set("k", "new"), set("k", long(512), cas(seq)), set("other", long(450)), ask(api.OpAdd, "k", value("new")),
		ask(api.OpReplace, "k", value("new"), expiry(9)), ask(api.OpAppend, "k", value("1")), ask(api.OpPrepend, "k", value(long(300)), cas(seq)),
		ask(api.OpDelete, "k"), ask(api.OpIncr, "k", delta(5), initial(3)), ask(api.OpDecr, "k", delta(5), expiry(api.NoInitial)),
		ask(api.OpTouch, "k", expiry(7)), ask(api.OpGat, "k", expiry(7)), ask(api.OpFlush, ""), persist(),
		ask(api.OpNoop, ""), ask(api.OpVersion, ""), ask(api.OpStat, ""), ask(api.OpQuit, ""),
	}
}

// follows is what is asked behind a command that was cut: of everything something.
func follows() []api.Request {
	return []api.Request{
		get("k"), get("j"), ask(api.OpStat, ""), set("k", "then"), get("k"), ask(api.OpIncr, "n", initial(7)), ask(api.OpIncr, "n", delta(2)),
		ask(api.OpGat, "j", expiry(50)), set("fill", long(500)), ask(api.OpAppend, "k", value("!")), ask(api.OpDelete, "j"), persist(),
		ask(api.OpTouch, "fill"), get("great0"), ask(api.OpReplace, "great1", value("x")), ask(api.OpFlush, ""), set("last", "x"), persist(), ask(api.OpStat, ""),
	}
}

// cut is each deed in each situation with a disk that was told to go wrong at each of the operations that the deed does: the engine is told to be what the words make of another one.
func cut(t *testing.T, least int64, spoil func(d *disk.Disk, n int), then func(t *testing.T, p twin, i *ideal, names []string)) {
	var cuts atomic.Int64
	t.Run("each", func(t *testing.T) {
		for _, s := range append(crowded(), spent()) {
			for i, q := range deeds(s.seq) {
				t.Run(s.name+" "+number(uint64(i)), func(t *testing.T) {
					t.Parallel()
					for n := 0; ; n++ {
						var w *watched
						p := twins(t, func() *watched { w = s.make(t, "10"); return w })
						p.both(func(d *disk.Disk) { spoil(d, n) })
						ops := p.disk().Ops()
						w.i.asks(t, q, p.do(t, q, later), later)
						if p.disk().Ops()-ops < n {
							break
						}
						p.both(func(d *disk.Disk) { d.Fail(-1) })
						then(t, p, w.i, append(slices.Clone(w.names), "n", "fill", "last", "other"))
						cuts.Add(1)
					}
				})
			}
		}
	})
	if cuts.Load() < least {
		t.Errorf("%d cuts", cuts.Load())
	}
}

// P18.2 to P18.6, P18.9: each command in each situation is cut at each of its operations by ErrIo: the answer, and what there is then, are just those that the words make. Then all goes on, as far as the store is not degraded; and behind a crash what is told is what may be.
func TestFails(t *testing.T) {
	cut(t, 3000, func(d *disk.Disk, n int) { d.Fail(n) }, func(t *testing.T, p twin, i *ideal, names []string) {
		afterCrash(t, p, i, names, 0)
		for at, q := range follows() {
			i.asks(t, q, p.do(t, q, later), later)
			if at%6 == 5 {
				afterCrash(t, p, i, names, at)
			}
		}
		afterCrash(t, p, i, names, 1)
	})
}

// P18.2 to P18.6, P18.9: the same, as the power goes at each write and sync. The engine goes on with what the Ram has.
func TestPowerGoes(t *testing.T) {
	cut(t, 3000, func(d *disk.Disk, n int) { d.Arm(n) }, func(t *testing.T, p twin, i *ideal, names []string) {
		afterCrash(t, p, i, names, 0)
		for _, q := range follows() {
			i.asks(t, q, p.do(t, q, later), later)
		}
		afterCrash(t, p, i, names, 2)
	})
}

// afterCrash tells whether each key has behind a crash what it may have, whatever lives on of what is pending; the choice of that number is gone on with.
func afterCrash(t *testing.T, p twin, i *ideal, names []string, choice int) {
	t.Helper()
	d := p.disk()
	choices := few(len(d.Pending()))
	for n, keep := range choices {
		e := d.Copy()
		e.Crash(keep)
		s, _, err := recover.Open(e, 64)
		is(t, err, api.OK)
		x, m := made(t, s, 2), i.crashed()
		if x.Seq() < p.x.Seq() {
			t.Fatalf("behind a crash Seq is %d, ahead of it it was %d", x.Seq(), p.x.Seq())
		}
		for _, key := range names {
			m.asks(t, get(key), x.Do(get(key), later), later)
		}
		if n != choice%len(choices) {
			continue
		}
		for _, q := range follows() {
			a := x.Do(q, later)
			m.asks(t, q, a, later)
			if a.Status == api.StatusInternal {
				t.Fatalf("behind a crash %s is %s", wished(q), told(a))
			}
		}
	}
}

// few are choices of which of n pending writes live on: none, all, every other one, all up to some.
func few(n int) [][]bool {
	l := [][]bool{nil, choose(n, func(int) bool { return true })}
	if n > 1 {
		l = append(l, choose(n, func(i int) bool { return i%2 == 0 }), choose(n, func(i int) bool { return i%2 == 1 }), choose(n/2, func(int) bool { return true }))
	}
	return l
}

// spoilt is each command in each situation with a disk, or a store, that was spoilt: all is by the words.
func spoilt(t *testing.T, spoil func(t *testing.T, s *store.Store)) {
	for _, s := range crowded() {
		t.Run(s.name, func(t *testing.T) {
			t.Parallel()
			for _, q := range append(deeds(s.seq), requests(s.seq)...) {
				var w *watched
				p := twins(t, func() *watched { w = s.make(t, "10"); return w })
				spoil(t, p.x.Store())
				spoil(t, p.w.cold.(realStore).s)
				for _, q := range []api.Request{q, get("k"), q, persist(), ask(api.OpStat, "")} {
					w.i.asks(t, q, p.do(t, q, later), later)
				}
			}
		})
	}
}

// P18.2 to P18.6: a disk without power, which the engine does not know as yet.
func TestDead(t *testing.T) {
	spoilt(t, func(t *testing.T, s *store.Store) {
		s.Log().Super().Disk().Arm(0)
		is(t, s.Log().Super().Disk().Sync(), api.ErrDead)
	})
}

// P18.2 to P18.6: a store that is degraded by its log.
func TestBroken(t *testing.T) {
	spoilt(t, func(t *testing.T, s *store.Store) {
		s.Log().Super().Disk().Fail(0)
		is(t, s.Sync(), api.ErrIo)
	})
}

// P18.2 to P18.6: a store that is degraded by a Flush.
func TestUnset(t *testing.T) {
	spoilt(t, func(t *testing.T, s *store.Store) {
		s.Log().Super().Disk().Fail(0)
		is(t, s.Flush(1<<40), api.ErrIo)
	})
}

// P18.3 to P18.6: what a degraded store lets be: what the Ram alone has is told, written and deleted; what the disk may have is not written, and goes from the Ram; nothing is persisted, flushed, or found on the disk.
func TestDegradedByExample(t *testing.T) {
	w := fresh(t, one)
	w.oks(t, 0, set("disk", "d"), set("both", "b"), persist(), set("great", long(500)), get("both"), set("ram", "r"))
	w.d.Fail(0)
	is(t, w.x.Sync(), api.ErrIo)
	internal := status(api.StatusInternal)
	for _, x := range []struct {
		q    api.Request
		want api.Answer
	}{
		{get("ram"), hit("r", 0, 4)}, {get("both"), hit("b", 0, 2)}, {get("disk"), status(api.StatusNone)},
		{persist(), internal}, {ask(api.OpFlush, ""), internal}, {ask(api.OpFlush, "", expiry(1)), status(api.StatusArgs)},
		// A flush takes a sequence, whatever comes of it; so does a tombstone.
		{get("ram"), hit("r", 0, 4)}, {set("new", "n"), ok(6)}, {ask(api.OpDelete, "new"), status(api.StatusOK)},
		{ask(api.OpAdd, "disk", value("x")), internal}, {set("both", "x"), internal}, {get("both"), status(api.StatusNone)},
		{ask(api.OpDelete, "both"), status(api.StatusNone)}, {set("new", "n"), ok(9)}, {get("new"), hit("n", 0, 9)},
	} {
		if a := w.x.Do(x.q, 0); !sameAnswer(a, x.want) {
			t.Fatalf("%s is %s; the test asks for %s", wished(x.q), told(a), told(x.want))
		}
	}
}

// P18.4, P18.5: a key whose copy can't be killed goes from the Ram all the same. If it is the copy that could not be read, it is there still; if it is the tombstone that could not be written, nothing is told any more.
func TestKillFails(t *testing.T) {
	for _, q := range []api.Request{ask(api.OpDelete, "k"), set("k", "new"), ask(api.OpTouch, "k"), ask(api.OpAppend, "k", value("!"))} {
		for n := range 3 {
			w := putK(t, small, "v")
			w.oks(t, 0, persist())
			w.d.Fail(n)
			if a := w.x.Do(q, 0); !sameAnswer(a, status(api.StatusInternal)) || w.x.Ram().Len() != 0 {
				t.Fatalf("%s is %s, and %d items are there", wished(q), told(a), w.x.Ram().Len())
			}
			want := status(api.StatusNone)
			if n == 0 {
				want = hit("v", 7, 1)
			}
			if a := w.x.Do(get("k"), 0); !sameAnswer(a, want) || w.x.Seq() != 2 {
				t.Fatalf("behind %s k is %s", wished(q), told(a))
			}
		}
	}
}

// P18.3: a disk that can't read what is asked for: finding fails, nothing changes, and the next one finds it.
func TestFindFails(t *testing.T) {
	for _, s := range situations() {
		if s.seq == 0 || s.ram {
			continue
		}
		for _, q := range requests(s.seq) {
			if !slices.Contains(keyed, q.Op) || refusedAs(q) != 0 {
				continue
			}
			w := s.make(t, "10")
			w.d.Fail(0)
			if a := w.x.Do(q, later); !sameAnswer(a, status(api.StatusInternal)) {
				t.Fatalf("%s is %s", wished(q), told(a))
			}
			w.tells(t, later)
			w.do(t, q, later)
		}
	}
}

// P18.6 (persist): where the disk fails nothing is Clean, of what was put neither.
func TestPersistFails(t *testing.T) {
	for n := 0; ; n++ {
		w := fresh(t, small)
		for i := range 4 {
			w.oks(t, 0, set("k"+number(uint64(i)), "v"))
		}
		w.d.Fail(n)
		a := w.x.Do(persist(), 0)
		if a.Status == api.StatusOK {
			if n != 4+4+1 || len(w.dirty()) != 0 {
				t.Errorf("persist does %d operations, %q are Dirty", n, w.dirty())
			}
			break
		}
		if !sameAnswer(a, status(api.StatusInternal)) || len(w.dirty()) != 4 {
			t.Fatalf("cut at %d persist is %s, %q are Dirty", n, told(a), w.dirty())
		}
	}
}
