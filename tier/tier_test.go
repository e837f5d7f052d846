package tier_test

import (
	"math"
	"strings"
	"testing"

	"icehouse/api"
	"icehouse/recover"
	"icehouse/ring"
	"icehouse/store"
	"icehouse/tier"
)

// small is a plan with little room.
var small = plan{4, 24, 64, 2}

// long is a text of so many bytes.
func long(n int) string { return strings.Repeat("abcdefg", n/7+1)[:n] }

// The chapter's examples: P18.2 to P18.6.
func TestExamples(t *testing.T) {
	w := fresh(t, small)
	w.asks(t, set("a", "x"), 100, ok(1))
	w.asks(t, get("a"), 100, hit("x", 0, 1))
	w.asks(t, ask(api.OpAdd, "a", value("y")), 100, status(api.StatusThere))
	w.asks(t, ask(api.OpReplace, "b", value("y")), 100, status(api.StatusNone))
	w.asks(t, set("a", "z", cas(7)), 100, status(api.StatusThere))
	w.asks(t, ask(api.OpAppend, "a", value("!")), 100, ok(2))
	w.asks(t, get("a"), 100, hit("x!", 0, 2))
	w.asks(t, ask(api.OpIncr, "n", delta(5), initial(7), expiry(api.NoInitial)), 100, status(api.StatusNone))
	w.asks(t, ask(api.OpIncr, "n", delta(5), initial(7)), 100, api.Answer{Cas: 3, Number: 7})
	w.asks(t, ask(api.OpIncr, "n", delta(5), initial(7)), 100, api.Answer{Cas: 4, Number: 12})
	w.asks(t, set("c", "v", expiry(5)), 100, ok(5))
	w.asks(t, get("c"), 104, hit("v", 0, 5))
	w.asks(t, get("c"), 105, status(api.StatusNone))
	w.asks(t, ask(api.OpDelete, "a"), 105, status(api.StatusOK))
	w.asks(t, get("a"), 105, status(api.StatusNone))
	w.asks(t, ask(api.OpDelete, "a"), 105, status(api.StatusNone))
	w.asks(t, set("q", "q"), 105, ok(6))
	w.asks(t, ask(api.OpIncr, "q", delta(1)), 105, status(api.StatusNumber))
	w.asks(t, ask(api.OpQuit, ""), 105, api.Answer{Close: true})
	w.asks(t, ask(99, ""), 105, status(api.StatusUnknown))
	w.asks(t, get(long(251)), 105, status(api.StatusArgs))
	w.asks(t, set("a", long(513)), 105, status(api.StatusLarge))
}

// The document's examples of the whole, as far as they are of this layer: P1, P2.
func TestExamplesOfTheWhole(t *testing.T) {
	w := fresh(t, small)
	w.oks(t, 0, set("a", "x"), persist())
	w.crash(t, nil)
	w.asks(t, get("a"), 0, hit("x", 0, 1))

	for _, keep := range [][]bool{nil, {true, true, true, true}} {
		w = fresh(t, small)
		w.oks(t, 0, set("a", "x"), persist(), set("a", "y"))
		w.crash(t, keep)
		w.asks(t, get("a"), 0, status(api.StatusNone))
	}

	w = fresh(t, small)
	w.oks(t, 0, set("a", "x"), persist(), set("b", "y"), ask(api.OpFlush, ""))
	w.crash(t, nil)
	w.asks(t, get("a"), 0, status(api.StatusNone))
	w.asks(t, get("b"), 0, status(api.StatusNone))
}

// P18.1: how many pages there may be; there are no items; the sequences begin behind what was reserved; the disk is not asked.
func TestNew(t *testing.T) {
	for _, upTo := range []uint64{0, 1, 1024, 5000, math.MaxUint64} {
		for _, pages := range []int{1, 2, 3, 128, 255, 256} {
			w := reserving(t, plan{4, 24, 8, pages}, upTo)
			ops := w.d.Ops()
			x := made(t, w.x.Store(), pages)
			if x.Seq() != upTo || x.Ram().Len() != 0 || x.Store() != w.x.Store() || w.d.Ops() != ops {
				t.Errorf("with %d pages Seq is %d, %d items, %d operations", pages, x.Seq(), x.Ram().Len(), w.d.Ops()-ops)
			}
			// As many great items have room as there are pages.
			for i := range pages + 1 {
				x.Do(set(number(uint64(i)), long(512)), 0)
			}
			if n := x.Ram().Len(); upTo < math.MaxUint64 && n != pages {
				t.Errorf("%d great items have room in %d pages", n, pages)
			}
		}
	}
}

// wrongPages are numbers of pages that there may not be.
var wrongPages = []int{math.MinInt, math.MinInt32, -257, -256, -1, 0, 257, 258, 512, 1 << 16, 1<<16 + 1, 1 << 32, 1<<32 + 1, math.MaxInt}

// P18.1: a Store that is nil goes ahead of a wrong number of pages; one that is degraded, or has no power, is no hindrance.
func TestNewRefuses(t *testing.T) {
	for _, pages := range append([]int{1, 256}, wrongPages...) {
		if x, err := tier.New(nil, pages); x != nil || err != api.ErrNil {
			t.Errorf("New(nil, %d) is an engine: %t, error %d", pages, x != nil, err)
		}
	}
	d, s := formatted(t, small)
	for range 2 {
		for _, pages := range wrongPages {
			if x, err := tier.New(s, pages); x != nil || err != api.ErrArg {
				t.Errorf("New(s, %d) is an engine: %t, error %d", pages, x != nil, err)
			}
		}
		made(t, s, 1)
		d.Arm(0)
		s.Sync()
	}
	if !s.Degraded() || !d.Dead() {
		t.Error("the store is not degraded, or the disk has power")
	}
}

// P18.2, P18.7, P18.8, R4: of nil.
func TestNil(t *testing.T) {
	var x *tier.Engine
	for _, q := range append(requests(1), ask(-1, ""), ask(api.OpNoop, "", bad(api.StatusUnknown)), ask(99, "", bad(3))) {
		if a := x.Do(q, 7); !sameAnswer(a, status(api.StatusInternal)) {
			t.Errorf("of nil %s is %s", wished(q), told(a))
		}
	}
	for _, now := range []uint32{0, 1, math.MaxUint32} {
		is(t, x.Clean(now), api.ErrNil)
	}
	is(t, x.Sync(), api.ErrNil)
	if x.Seq() != 0 || x.Store() != nil || x.Ram() != nil {
		t.Error("nil tells something")
	}
}

// P18.8: Seq rises with each write and each kill; Store and Ram are those that the commands work on.
func TestTold(t *testing.T) {
	d, s := formatted(t, small)
	x := made(t, s, 2)
	if x.Store() != s || s.Log().Super().Disk() != d {
		t.Error("Store is another one")
	}
	m := x.Ram()
	for i, step := range []struct {
		q   api.Request
		seq uint64
		len int
	}{
		{set("a", "x"), 1, 1}, {get("a"), 1, 1}, {set("b", "x"), 2, 2}, {persist(), 2, 2},
		{set("a", "y"), 4, 2}, {ask(api.OpDelete, "a"), 5, 1}, {ask(api.OpDelete, "b"), 6, 0},
		{ask(api.OpNoop, ""), 6, 0}, {set("c", "z"), 7, 1}, {ask(api.OpFlush, ""), 8, 0},
	} {
		if a := x.Do(step.q, 0); a.Status != api.StatusOK || x.Seq() != step.seq || m.Len() != step.len || x.Ram() != m || x.Store() != s {
			t.Fatalf("step %d: %s; Seq is %d, %d items", i, told(a), x.Seq(), m.Len())
		}
	}
}

// full is an engine whose log has so many great items on as many segments; of the first of them the last seconds run out at 50.
func full(t *testing.T, segments, pages, n int) *watched {
	t.Helper()
	w := fresh(t, plan{segments, 24, 64, pages})
	for i := range n {
		w.oks(t, 0, set("great "+number(uint64(i)), long(512), expiry(uint32(50*(1-min(i, 1))))))
		w.oks(t, 0, persist())
	}
	return w
}

// P18.7 (Clean): three segments are free then, as clean.Room makes them; what has expired at now is not kept.
func TestClean(t *testing.T) {
	for _, segments := range []int{4, 5, 8} {
		for n := range 8 {
			for _, now := range []uint32{0, 49, 50, math.MaxUint32} {
				w := full(t, segments, 16, n)
				w.clean(t, now)
				if frees := ring.Frees(w.x.Store().Log().Ring()); frees < 3 {
					t.Fatalf("%d are free", frees)
				}
				w.lies(t, now)
				ops := w.d.Ops()
				w.clean(t, now)
				if w.d.Ops() != ops {
					t.Fatal("Clean of what is clean asks the disk")
				}
			}
		}
	}
}

// P18.7 (Clean, Sync): errors of a disk that fails, that is dead, of a store that is degraded.
func TestCleanAndSyncFail(t *testing.T) {
	w := full(t, 4, 16, 3)
	w.d.Fail(0)
	is(t, w.x.Clean(0), api.ErrIo)
	w.tells(t, 0)
	w.clean(t, 0)

	w = full(t, 4, 16, 3)
	w.d.Arm(0)
	is(t, w.x.Clean(0), api.ErrDead)
	is(t, w.x.Clean(0), api.ErrIo)
	is(t, w.x.Sync(), api.ErrIo)

	for _, n := range []int{0, 3} {
		w = full(t, 4, 16, n)
		w.d.Fail(0)
		is(t, w.x.Sync(), api.ErrIo)
		want := api.ErrIo
		if n == 0 {
			want = api.OK
		}
		is(t, w.x.Clean(0), want)
		is(t, w.x.Sync(), api.ErrIo)
	}

	w = full(t, 4, 16, 0)
	w.d.Arm(0)
	is(t, w.x.Sync(), api.ErrDead)
	is(t, w.x.Sync(), api.ErrIo)
}

// P18.7 (Sync): what was put out is safe behind it, and not ahead of it.
func TestSync(t *testing.T) {
	for _, sync := range []bool{false, true} {
		w := putK(t, one, "v")
		w.oks(t, 0, set("great", long(480)))
		if n := len(w.d.Pending()); n != 1 {
			t.Fatalf("%d writes are pending", n)
		}
		want := status(api.StatusNone)
		if sync {
			w.sync(t)
			want = hit("v", 7, 1)
		}
		w.tells(t, 0)
		w.crash(t, nil)
		w.asks(t, get("k"), 0, want)
	}
}

// P18.1, R4: each engine goes by itself.
func TestEnginesApart(t *testing.T) {
	a, b := fresh(t, small), fresh(t, small)
	a.oks(t, 0, set("k", "a"), persist())
	b.asks(t, get("k"), 0, status(api.StatusNone))
	b.oks(t, 0, set("k", "b"))
	a.asks(t, get("k"), 0, hit("a", 0, 1))
	b.asks(t, get("k"), 0, hit("b", 0, 1))
}

// reopened is the store of a copy of a disk, behind a crash in which those of the pending writes live on.
func reopened(t *testing.T, w *watched, keep []bool) *store.Store {
	t.Helper()
	d := w.d.Copy()
	d.Crash(keep)
	s, _, err := recover.Open(d, w.p.slots)
	is(t, err, api.OK)
	return s
}
