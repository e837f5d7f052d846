package tier_test

import (
	"math"
	"testing"

	"icehouse/api"
)

// P18.9, P3: the first sequence is one more than what was reserved; what is known is set ahead of it, with Reserve more.
func TestFirst(t *testing.T) {
	const most = math.MaxUint64
	for _, x := range []struct{ upTo, then uint64 }{
		{0, 1024}, {1, 1025}, {1023, 2047}, {1024, 2048}, {1025, 2049}, {1 << 32, 1<<32 + 1024}, {1 << 63, 1<<63 + 1024},
		{most - 2048, most - 1024}, {most - 1025, most - 1}, {most - 1024, most}, {most - 1023, most}, {most - 2, most}, {most - 1, most},
	} {
		w := reserving(t, small, x.upTo)
		ops := w.d.Ops()
		w.asks(t, set("a", "v"), 0, ok(x.upTo+1))
		if known := w.x.Store().Log().Super().Get(); known.Reserved != x.then || w.d.Ops() != ops+2 {
			t.Errorf("behind %d known is %v, %d operations", x.upTo, known, w.d.Ops()-ops)
		}
		if x.upTo+1 == most {
			continue
		}
		w.asks(t, set("a", "v"), 0, ok(x.upTo+2))
		if w.d.Ops() != ops+2 {
			t.Errorf("behind %d the second one is reserved anew", x.upTo)
		}
	}
}

// P18.9, P3: each sequence up to what is reserved is given ahead of the next ones being reserved, over and over.
func TestReserves(t *testing.T) {
	w := fresh(t, small)
	ops := w.d.Ops()
	for n := range uint64(3100) {
		a := w.quick(t, set("a", "v"), 0)
		if !sameAnswer(a, ok(n+1)) {
			t.Fatalf("write %d is %s", n, told(a))
		}
		// A Set is a write and a sync.
		if want := ops + 2*int(n/1024+1); w.d.Ops() != want || w.x.Store().Log().Super().Get().Reserved != n/1024*1024+1024 {
			t.Fatalf("behind %d writes the disk did %d operations; the test asks for %d", n+1, w.d.Ops(), want)
		}
	}
	w.tells(t, 0)
}

// P18.9, P3: behind a crash the sequences go on behind all that were reserved, whatever was given of them.
func TestSequencesRise(t *testing.T) {
	w := fresh(t, small)
	last := uint64(0)
	for i := range 40 {
		for range 1 + i*i%50 {
			a := w.do(t, set("a", "v"), 0)
			if a.Status != api.StatusOK || a.Cas <= last {
				t.Fatalf("behind %d it is %s", last, told(a))
			}
			last = a.Cas
		}
		if i%3 == 0 {
			w.oks(t, 0, persist())
		}
		w.crash(t, choose(i%4, func(n int) bool { return i>>n&1 > 0 }))
		if w.x.Seq() < last {
			t.Fatalf("Seq is %d behind %d", w.x.Seq(), last)
		}
	}
}

// P18.9, P3: if what is reserved can't be made known nothing is written, and the key goes from the Ram; the next write is reserved anew, and no sequence is left out.
func TestReserveFails(t *testing.T) {
	writes := []api.Request{set("k", "2"), ask(api.OpReplace, "k", value("2")), ask(api.OpAppend, "k", value("2")), ask(api.OpPrepend, "k", value("2")),
		ask(api.OpTouch, "k"), ask(api.OpGat, "k"), ask(api.OpIncr, "k", delta(1)), ask(api.OpDecr, "k", delta(1))}
	for _, q := range writes {
		for at := range 2 {
			w := reserving(t, small, 2046)
			w.oks(t, 0, set("j", "v"))
			for w.x.Seq() < 3070 {
				w.quick(t, set("k", "1"), 0)
			}
			w.tells(t, 0)
			w.d.Fail(at)
			if a := w.x.Do(q, 0); !sameAnswer(a, status(api.StatusInternal)) {
				t.Fatalf("%s is %s", wished(q), told(a))
			}
			if w.x.Store().Degraded() || w.x.Seq() != 3070 || w.x.Store().Log().Super().Get().Reserved != 3070 {
				t.Fatalf("Seq is %d, degraded %t", w.x.Seq(), w.x.Store().Degraded())
			}
			for key, want := range map[string]api.Answer{"k": status(api.StatusNone), "j": hit("v", 0, 2047)} {
				if a := w.x.Do(get(key), 0); !sameAnswer(a, want) {
					t.Fatalf("behind %s %q is %s", wished(q), key, told(a))
				}
			}
			if a := w.x.Do(set("k", "3"), 0); !sameAnswer(a, ok(3071)) || w.x.Store().Log().Super().Get().Reserved != 4094 {
				t.Fatalf("set is %s", told(a))
			}
		}
	}
	// What is not there is not written either.
	for _, q := range []api.Request{set("new", "v"), ask(api.OpAdd, "new", value("v")), ask(api.OpIncr, "new"), ask(api.OpFlush, "")} {
		w := fresh(t, small)
		w.d.Fail(1)
		if a := w.x.Do(q, 0); !sameAnswer(a, status(api.StatusInternal)) || w.x.Seq() != 0 || w.x.Ram().Len() != 0 {
			t.Fatalf("%s is %s; Seq is %d", wished(q), told(a), w.x.Seq())
		}
		if a := w.x.Do(get("new"), 0); !sameAnswer(a, status(api.StatusNone)) {
			t.Fatalf("behind %s it is %s", wished(q), told(a))
		}
		if a := w.x.Do(q, 0); a.Status != api.StatusOK || w.x.Seq() != 1 {
			t.Fatalf("once more %s is %s; Seq is %d", wished(q), told(a), w.x.Seq())
		}
	}
}

// P18.2 to P18.6, P18.9: at the last sequence none is given any more: what takes one fails, and is let go from the Ram if it was to be written; what takes none goes on.
func TestLast(t *testing.T) {
	const most = math.MaxUint64
	end := func() *watched {
		w := reserving(t, small, most-4)
		w.oks(t, 0, set("ram", "1"), set("both", "2"), persist(), set("great", long(500)))
		w.asks(t, set("last", "3"), 0, ok(most))
		return w
	}
	internal := status(api.StatusInternal)
	for _, x := range []struct {
		q    api.Request
		want api.Answer
	}{
		{set("last", "x"), internal}, {set("both", "x"), internal}, {set("new", "x"), internal},
		{ask(api.OpAdd, "new", value("x")), internal}, {ask(api.OpAdd, "last", value("x")), status(api.StatusThere)},
		{ask(api.OpReplace, "last", value("x")), internal}, {ask(api.OpReplace, "new", value("x")), status(api.StatusNone)},
		{ask(api.OpAppend, "last", value("x")), internal}, {ask(api.OpPrepend, "both", value("x")), internal},
		{ask(api.OpTouch, "last"), internal}, {ask(api.OpGat, "both"), internal}, {ask(api.OpGat, "new"), status(api.StatusNone)},
		{ask(api.OpIncr, "last", delta(1)), internal}, {ask(api.OpDecr, "both", delta(1)), internal}, {ask(api.OpIncr, "new"), internal},
		{ask(api.OpIncr, "new", expiry(api.NoInitial)), status(api.StatusNone)}, {ask(api.OpIncr, "great"), status(api.StatusNumber)},
		{ask(api.OpFlush, ""), internal}, {ask(api.OpFlush, "", expiry(1)), status(api.StatusArgs)},
		// A tombstone takes one, too; where none is needed what is deleted goes.
		{ask(api.OpDelete, "last"), status(api.StatusOK)}, {ask(api.OpDelete, "both"), internal}, {ask(api.OpDelete, "new"), status(api.StatusNone)},
		{get("last"), hit("3", 0, most)}, {get("both"), hit("2", 0, most-2)}, {persist(), status(api.StatusOK)},
		{ask(api.OpNoop, ""), status(api.StatusOK)},
	} {
		w := end()
		known := w.x.Store().Log().Super().Get()
		w.asks(t, x.q, 0, x.want)
		if now := w.x.Store().Log().Super().Get(); w.x.Seq() != most || now != known {
			t.Errorf("behind %s Seq is %d, known is %v", wished(x.q), w.x.Seq(), now)
		}
		key := string(x.q.Key)
		if x.want.Status == api.StatusInternal && key != "" {
			if w.m.at(key) >= 0 {
				t.Errorf("behind %s the Ram has the key still", wished(x.q))
			}
			// The copy on the disk could not be killed: it is what there is, as nothing else was answered.
			after := status(api.StatusNone)
			if key == "both" {
				after = hit("2", 0, most-2)
			}
			w.asks(t, get(key), 0, after)
		}
		w.crash(t, nil)
		w.asks(t, set("z", "z"), 0, internal)
	}
}
