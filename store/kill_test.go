package store_test

import (
	"bytes"
	"math"
	"testing"

	"icehouse/api"
)

// P14.4: keys and sequences of which there may be no tombstone.
func TestKillLimits(t *testing.T) {
	w := fresh(t, 8, 24, 8)
	ok(t, w.put(t, item("a", 1, 1)))
	for _, n := range []int{0, 1, 2, 249, 250, 251, 252, 506, 65537} {
		for _, seq := range []uint64{0, 1, math.MaxUint64} {
			key := string(bytes.Repeat([]byte("a"), n))
			if n < 1 || n > 250 || seq == 0 {
				is(t, w.kill(t, key, seq), api.ErrRecord)
				w.has(t, item("a", 1, 1))
				continue
			}
			ok(t, w.kill(t, key, seq))
			w.hasNone(t, key)
			ok(t, w.put(t, item("a", 1, 1)))
		}
	}
}

// P14.4: what is killed is gone, has its tombstone, safe at once, and its slot is free; of a key that isn't there the tombstone is written all the same.
func TestKill(t *testing.T) {
	for _, there := range []bool{true, false} {
		w := fresh(t, 4, 24, 1)
		if there {
			ok(t, w.put(t, item("a", 60, 1)))
		}
		ok(t, w.kill(t, "a", 2))
		if len(w.d.Pending()) != 0 {
			t.Errorf("%v are pending", w.d.Pending())
		}
		w.hasNone(t, "a")
		if w.s.Len() != 0 || w.s.Left() != 1 {
			t.Errorf("Len is %d, Left %d", w.s.Len(), w.s.Left())
		}
		l := w.scan(t, 0)
		if last := l[len(l)-1].Record; last.Kind != 2 || last.Seq != 2 || string(last.Key) != "a" {
			t.Errorf("the last record is %v", last)
		}
		w = w.crash(t, nil)
		w.hasNone(t, "a")
		ok(t, w.kill(t, "a", 3))
		b := item("b", 5, 4)
		ok(t, w.put(t, b))
		w.has(t, b)
	}
}

// P14.4: Put behind Kill is there again, whatever its sequence is; other keys are not touched.
func TestPutBehindKill(t *testing.T) {
	w := fresh(t, 16, 64, 2)
	other := item("other", 9, 1)
	ok(t, w.put(t, other))
	for i, seq := range []uint64{2, 9, 3, math.MaxUint64, 1} {
		x := item("a", i, seq)
		ok(t, w.put(t, x))
		w.has(t, x)
		ok(t, w.kill(t, "a", seq))
		w.hasNone(t, "a")
		ok(t, w.put(t, x))
		w.has(t, x)
		ok(t, w.put(t, x))
		ok(t, w.kill(t, "a", 1))
		w.hasNone(t, "a")
		w.has(t, other)
	}
}

// P14.4: Kill of what is void or has expired takes its entry, too.
func TestKillVoid(t *testing.T) {
	w := fresh(t, 4, 24, 2)
	ok(t, w.put(t, item("a", 1, 1)))
	ok(t, w.put(t, until(item("b", 1, 3), 1)))
	ok(t, w.flush(t, 2))
	is(t, w.put(t, item("c", 1, 4)), api.ErrFull)
	ok(t, w.kill(t, "a", 4))
	ok(t, w.kill(t, "b", 5))
	ok(t, w.put(t, item("c", 1, 6)))
	ok(t, w.put(t, item("d", 1, 7)))
}

// P14.4: Flush at what is known, and beside it: nothing is done up to it; above it, it is set at once, and safe.
func TestFlush(t *testing.T) {
	w := fresh(t, 4, 24, 8)
	known := uint64(0)
	for _, seq := range []uint64{0, 1, 0, 1, 2, 10, 9, 10, 11, 3, math.MaxUint64 - 1, math.MaxUint64, math.MaxUint64 - 1, 0} {
		ops := w.d.Ops()
		ok(t, w.flush(t, seq))
		switch n := w.d.Ops() - ops; {
		case seq <= known && n != 0:
			t.Errorf("Flush(%d) at %d does %d operations", seq, known, n)
		case seq > known && n != 2:
			t.Errorf("Flush(%d) at %d does %d operations", seq, known, n)
		}
		known = max(known, seq)
		if x := w.s.Log().Super().Get().Flush; x != known || len(w.d.Pending()) != 0 {
			t.Errorf("behind Flush(%d) it is %d, %v are pending", seq, x, w.d.Pending())
		}
	}
	w = w.crash(t, nil)
	if x := w.s.Log().Super().Get().Flush; x != math.MaxUint64 {
		t.Errorf("behind a crash it is %d", x)
	}
}

// P14.4: Flush changes nothing else that is known, and nothing of the log; what is not safe stays so but for the superblock's sync.
func TestFlushAlone(t *testing.T) {
	w := fresh(t, 4, 24, 8)
	a, b := sized("a", 17, 1), sized("b", 17, 2)
	ok(t, w.put(t, a))
	ok(t, w.put(t, b))
	ok(t, w.retire(t, 0))
	before := w.s.Log().Super().Get()
	before.Flush = 1
	ok(t, w.flush(t, 1))
	if x := w.s.Log().Super().Get(); x != before {
		t.Errorf("known is %v; asked is %v", x, before)
	}
	w.has(t, b)
}

// P14.4: Flush counts when what is known was set by another one meanwhile.
func TestFlushShared(t *testing.T) {
	w := fresh(t, 4, 24, 8)
	ok(t, w.put(t, item("a", 1, 5)))
	set := func(seq uint64) {
		for _, s := range []interface {
			Get() api.Super
			Set(api.Super) api.Errno
		}{w.s.Log().Super(), w.p.log.Super()} {
			x := s.Get()
			x.Flush, x.Reserved = seq, seq*10
			ok(t, s.Set(x))
		}
	}
	set(4)
	w.has(t, item("a", 1, 5))
	ok(t, w.flush(t, 4))
	w.has(t, item("a", 1, 5))
	set(5)
	w.hasNone(t, "a")
	ok(t, w.flush(t, 6))
	if x := w.s.Log().Super().Get(); x.Reserved != 50 || x.Flush != 6 {
		t.Errorf("known is %v", x)
	}
}

// P14.4: Sync makes safe what is pending, and is one operation.
func TestSync(t *testing.T) {
	w := fresh(t, 4, 24, 8)
	ok(t, w.sync(t))
	ok(t, w.put(t, item("a", 100, 1)))
	ok(t, w.put(t, item("b", 100, 2)))
	if len(w.d.Pending()) == 0 {
		t.Error("a Put is safe at once")
	}
	ops := w.d.Ops()
	ok(t, w.sync(t))
	if w.d.Ops() != ops+1 || len(w.d.Pending()) != 0 {
		t.Errorf("%d operations, %v are pending", w.d.Ops()-ops, w.d.Pending())
	}
	w = w.crash(t, nil)
	w.has(t, item("a", 100, 1))
	w.has(t, item("b", 100, 2))
}

// P14.4, P14.5: Kill and Retire sync: what was put ahead of them is safe, too.
func TestSyncedByOthers(t *testing.T) {
	for i := range 3 {
		w := fresh(t, 4, 24, 8)
		ok(t, w.put(t, sized("a", 17, 1)))
		b := sized("b", 17, 2)
		ok(t, w.put(t, b))
		switch i {
		case 0:
			ok(t, w.kill(t, "c", 3))
		case 1:
			ok(t, w.retire(t, 0))
		case 2:
			is(t, w.retire(t, 1), api.ErrState)
		}
		w = w.crash(t, nil)
		w.has(t, b)
	}
}
