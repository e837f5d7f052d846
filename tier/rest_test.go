package tier_test

import (
	"math"
	"slices"
	"strconv"
	"testing"

	"icehouse/api"
	"icehouse/clean"
)

// P18.6 (flush): nothing of what was written is told any more, behind a crash neither, whatever lives on; what is written then is.
func TestFlush(t *testing.T) {
	for _, s := range situations() {
		w := s.make(t, "v")
		seq := w.x.Seq()
		w.asks(t, ask(api.OpFlush, ""), later, status(api.StatusOK))
		if known := w.x.Store().Log().Super().Get(); w.x.Seq() != seq+1 || known.Flush != seq+1 || w.x.Ram().Len() != 0 {
			t.Errorf("%s: Seq is %d, known is %v", s.name, w.x.Seq(), known)
		}
		for _, key := range w.names {
			w.asks(t, get(key), later, status(api.StatusNone))
		}
		for _, keep := range keeps(len(w.d.Pending())) {
			y := made(t, reopened(t, w, keep), 1)
			for _, key := range w.names {
				if a := y.Do(get(key), later); !sameAnswer(a, status(api.StatusNone)) {
					t.Errorf("%s: behind a crash %q is %s", s.name, key, told(a))
				}
			}
		}
		w.oks(t, later, set("k", "new"), persist())
		w.crash(t, nil)
		if a := w.do(t, get("k"), later); string(a.Value) != "new" {
			t.Errorf("%s: k is %s", s.name, told(a))
		}
	}
}

// P18.6 (flush): an Expiry is refused, and nothing changes, no sequence is given.
func TestFlushLater(t *testing.T) {
	for _, wish := range []uint32{1, 5, api.Month, api.Month + 1, math.MaxUint32} {
		for _, s := range situations() {
			w := s.make(t, "v")
			seq, ops := w.x.Seq(), w.d.Ops()
			w.asks(t, ask(api.OpFlush, "", expiry(wish)), later, status(api.StatusArgs))
			if w.x.Seq() != seq || w.d.Ops() != ops {
				t.Errorf("%s: Seq is %d, the disk did %d operations", s.name, w.x.Seq(), w.d.Ops()-ops)
			}
		}
	}
}

// dirty are the keys of what is Dirty in the Ram, in order.
func (w *watched) dirty() []string {
	var l []string
	for x := range w.x.Ram().All() {
		if x.Dirty {
			l = append(l, string(x.Key))
		}
	}
	return l
}

// P18.6 (persist): in each situation all that was Dirty is on the disk, safe, and Clean; what was not is not written once more; the Ram's order stays.
func TestPersist(t *testing.T) {
	for _, s := range situations() {
		w := s.make(t, "v")
		if s.name == "on both, Dirty" {
			continue
		}
		ahead := w.m.all()
		w.asks(t, persist(), later, status(api.StatusOK))
		if l := w.dirty(); len(l) > 0 || len(w.d.Pending()) > 0 {
			t.Errorf("%s: %q are Dirty, %v are pending", s.name, l, w.d.Pending())
		}
		if now := w.m.all(); !slices.EqualFunc(now, ahead, func(a, b api.Item) bool { a.Dirty = b.Dirty; return sameItem(a, b) }) {
			t.Errorf("%s: the Ram has %s", s.name, items(now...))
		}
		y := made(t, reopened(t, w, nil), 1)
		for _, x := range ahead {
			a, want := y.Do(get(string(x.Key)), later), hit(string(x.Value), x.Flags, x.Seq)
			if gone(api.Record{Expiry: x.Expiry}, later) {
				want = status(api.StatusNone)
			}
			if dropped := s.name == "in the Ram, whose copy on the disk was dropped"; !sameAnswer(a, want) && !(dropped && string(x.Key) != "other") {
				t.Errorf("%s: behind a crash %q is %s", s.name, x.Key, told(a))
			}
		}
		// The second one syncs, and does nothing else.
		ops, used := w.d.Ops(), w.x.Store().Log().Ring()
		w.asks(t, persist(), later, status(api.StatusOK))
		if w.d.Ops() != ops+1 || !slices.Equal(w.x.Store().Log().Ring().Segs, used.Segs) {
			t.Errorf("%s: once more it is %d operations", s.name, w.d.Ops()-ops)
		}
	}
}

// P18.6 (persist): what was put out ahead of it is safe, too; nothing Dirty need be there.
func TestPersistSyncs(t *testing.T) {
	w := putK(t, one, "v")
	away(t, w)
	w.asks(t, persist(), 100, status(api.StatusOK))
	w.crash(t, nil)
	w.asks(t, get("k"), 100, hit("v", 7, 1))
}

// P18.6 (persist): the items go to the log in the Ram's order: by rising classes, each from the newest to the oldest.
func TestPersistOrder(t *testing.T) {
	w := fresh(t, plan{4, 64, 64, 4})
	w.oks(t, 0, set("a", long(100)), set("b", ""), set("c", long(200)), set("d", ""), set("e", long(100)), get("b"), persist())
	var l []string
	for _, c := range w.p.cells() {
		l = append(l, string(c.rec.Key))
	}
	if asked := []string{"b", "d", "e", "a", "c"}; !slices.Equal(l, asked) {
		t.Errorf("the log has %q; the test asks for %q", l, asked)
	}
}

// P18.6 (persist): if an item has no slot the rest is let go, nothing is synced, and nothing is Clean, of those that were put neither; where there is room, all is well again.
func TestPersistFull(t *testing.T) {
	for slots := range 6 {
		w := fresh(t, plan{4, 24, slots + 1, 2})
		for i := range 5 {
			w.oks(t, 0, set("k"+strconv.Itoa(i), "v"))
		}
		want := status(api.StatusInternal)
		if slots+1 >= 5 {
			want = status(api.StatusOK)
		}
		w.asks(t, persist(), 0, want)
		if n := w.x.Store().Len(); n != min(slots+1, 5) {
			t.Errorf("there are %d entries, and %d slots", n, slots+1)
		}
		if want.Status == api.StatusOK {
			continue
		}
		if l := w.dirty(); len(l) != 5 {
			t.Errorf("%q are Dirty", l)
		}
		if n := len(w.d.Pending()); n != slots+1 {
			t.Errorf("%d writes are pending", n)
		}
		for i := range 4 - slots {
			w.asks(t, persist(), 0, want)
			w.oks(t, 0, ask(api.OpDelete, "k"+strconv.Itoa(4-i)))
		}
		w.asks(t, persist(), 0, status(api.StatusOK))
		w.crash(t, nil)
		for i := range 5 {
			want := status(api.StatusNone)
			if i <= slots {
				want = hit("v", 0, uint64(i+1))
			}
			w.asks(t, get("k"+strconv.Itoa(i)), 0, want)
		}
	}
}

// P18.6 (persist): room is made ahead of each item, also if the log is full of what was void, or of what lives.
func TestPersistMakesRoom(t *testing.T) {
	w := fresh(t, plan{4, 24, 64, 40})
	for lap := range 12 {
		for i := range 8 {
			w.oks(t, 0, set("k"+strconv.Itoa(i), long(100*(lap%5)+i)))
		}
		w.asks(t, persist(), 0, status(api.StatusOK))
	}
	if w.p.drops == 0 || w.p.generation < 40 {
		t.Errorf("%d Drops, generation %d", w.p.drops, w.p.generation)
	}
}

// P18.6 (noop, version, quit): the answers, and nothing else.
func TestNoopVersionQuit(t *testing.T) {
	for _, s := range situations() {
		w := s.make(t, "v")
		ops := w.d.Ops()
		for range 2 {
			w.asks(t, ask(api.OpNoop, ""), later, status(api.StatusOK))
			w.asks(t, ask(api.OpVersion, ""), later, api.Answer{Value: []byte("icehouse 1")})
			w.asks(t, ask(api.OpQuit, ""), later, api.Answer{Close: true})
		}
		if w.d.Ops() != ops {
			t.Error("the disk was asked")
		}
	}
}

// stats asks for just these numbers of stat.
func (w *watched) stats(t *testing.T, items, charge, entries, degraded int) {
	t.Helper()
	a := w.x.Do(ask(api.OpStat, ""), 0)
	want := api.Answer{Stats: []api.Stat{
		{Name: "items", Value: strconv.Itoa(items)}, {Name: "charge", Value: strconv.Itoa(charge)},
		{Name: "entries", Value: strconv.Itoa(entries)}, {Name: "degraded", Value: strconv.Itoa(degraded)}}}
	if !sameAnswer(a, want) {
		t.Fatalf("stat is %s; the test asks for %s", told(a), told(want))
	}
	clear(a.Stats)
}

// P18.6 (stat): how many items there are, their charge, how many entries, whether the store is degraded; asking changes nothing.
func TestStat(t *testing.T) {
	w := fresh(t, small)
	w.stats(t, 0, 0, 0, 0)
	w.oks(t, 0, set("a", "xy"), set("bc", ""))
	w.stats(t, 2, 27+26, 0, 0)
	w.oks(t, 0, persist())
	w.stats(t, 2, 27+26, 2, 0)
	w.oks(t, 0, set("a", long(512)))
	w.stats(t, 2, 537+26, 1, 0)
	w.oks(t, 0, ask(api.OpDelete, "bc"))
	w.stats(t, 1, 537, 0, 0)
	w.oks(t, 0, set("d", "v", expiry(5)), persist(), ask(api.OpFlush, ""))
	w.stats(t, 0, 0, 2, 0)
	w.tells(t, 0)
	w.crash(t, nil)
	w.stats(t, 0, 0, 0, 0)
	w.oks(t, 0, set("e", "v"))
	w.d.Fail(0)
	is(t, w.x.Sync(), api.ErrIo)
	w.stats(t, 1, 26, 0, 1)
}

// P18.6 (stat): many items, great ones.
func TestStatOfMany(t *testing.T) {
	w := fresh(t, plan{16, 64, 1024, 256})
	for i := range 1100 {
		w.oks(t, 0, set("k"+strconv.Itoa(i), long(i%200)))
	}
	a := w.do(t, ask(api.OpStat, ""), 0)
	if n, _ := strconv.Atoi(a.Stats[0].Value); n < 800 {
		t.Errorf("it is %s", told(a))
	}
}

// P18.6 (persist), P18.5: a segment that was dropped takes what lived in it from the disk; what the Ram has of it is told still, and killed no more.
func TestDropped(t *testing.T) {
	w := fresh(t, small)
	w.oks(t, 0, set("k", "v"), persist(), set("a", long(512)), persist(), set("b", long(512)), persist())
	_, err := clean.Drop(w.x.Store())
	is(t, err, api.OK)
	w.p.retire()
	w.asks(t, set("k", "w"), 0, ok(4))
	w.asks(t, ask(api.OpDelete, "k"), 0, status(api.StatusOK))
	if w.x.Seq() != 4 {
		t.Errorf("Seq is %d", w.x.Seq())
	}
}

// P18.6 (flush, persist): an entry that is void has its slot till its segment is cleaned; so has one that has expired.
func TestVoidSlots(t *testing.T) {
	for _, end := range []api.Request{ask(api.OpFlush, ""), ask(api.OpNoop, "")} {
		w := fresh(t, plan{4, 24, 2, 2})
		w.oks(t, 0, set("a", "1", expiry(5)), set("b", "2", expiry(5)), persist(), end)
		w.oks(t, 5, set("c", "3"))
		w.asks(t, persist(), 5, status(api.StatusInternal))
		w.asks(t, get("a"), 5, status(api.StatusNone))
		w.crash(t, nil)
		w.oks(t, 5, set("c", "3"))
		want := status(api.StatusOK)
		if end.Op == api.OpNoop {
			// Behind a crash what has expired lives, as long as it is there.
			want = status(api.StatusInternal)
		}
		w.asks(t, persist(), 5, want)
	}
}
