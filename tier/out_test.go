package tier_test

import (
	"slices"
	"strconv"
	"testing"

	"icehouse/api"
	"icehouse/ring"
)

// log are the keys of the log's items, in order; those that give way to tombstones too.
func (w *watched) log() []string {
	var l []string
	for _, c := range w.p.cells() {
		if c.rec.Kind == api.RecordItem {
			l = append(l, string(c.rec.Key))
		}
	}
	return l
}

// logged asks for just those keys of items in the log, in that order.
func (w *watched) logged(t *testing.T, keys ...string) {
	t.Helper()
	w.lies(t, 0)
	if l := w.log(); !slices.Equal(l, keys) {
		t.Fatalf("the log has %q; the test asks for %q", l, keys)
	}
}

// P18.4: what is put out goes to the log, if it is Dirty, in the order in which it is put out: first the oldest of the class, then those of the least class that has items.
func TestPutOut(t *testing.T) {
	w := fresh(t, small)
	w.oks(t, 0, set("a", ""), set("b", ""), set("c", long(30)), set("d", long(30)), get("a"))
	w.logged(t)
	// Both pages are taken; the one of class 0 goes first.
	w.oks(t, 0, set("great", long(500)))
	w.logged(t, "b", "a")
	w.has(t, "d", "c", "great")
	w.oks(t, 0, set("greater", long(501)))
	w.logged(t, "b", "a", "great")
	w.has(t, "d", "c", "greater")
	w.oks(t, 0, set("x", ""))
	w.logged(t, "b", "a", "great", "c", "d")
	w.has(t, "x", "greater")
}

// P18.3, P18.4: what is put out and is not Dirty does not go to the log once more; what was written since does.
func TestPutOutClean(t *testing.T) {
	w := fresh(t, one)
	w.oks(t, 0, set("a", ""), set("b", ""), persist(), set("c", ""), ask(api.OpTouch, "a"))
	w.logged(t, "b", "a")
	w.oks(t, 0, set("great", long(500)))
	w.logged(t, "b", "a", "c", "a")
	w.oks(t, 0, get("b"))
	w.logged(t, "b", "a", "c", "a", "great")
	w.oks(t, 0, get("great"))
	w.logged(t, "b", "a", "c", "a", "great")
	for key, v := range map[string]string{"a": "", "b": "", "c": "", "great": long(500)} {
		if a := w.do(t, get(key), 0); string(a.Value) != v || a.Status != api.StatusOK {
			t.Errorf("%q is %s", key, told(a))
		}
	}
}

// P18.3, P18.4: what is put out has its flags, its expiry and its sequence on the disk, and is told with them; what has expired goes there all the same.
func TestPutOutWhole(t *testing.T) {
	w := fresh(t, one)
	w.oks(t, 100, set("a", "x", flags(1<<32-1), expiry(9)), set("b", "y", flags(5), expiry(1)))
	w.oks(t, 105, set("great", long(500)))
	w.logged(t, "a", "b")
	w.asks(t, get("a"), 108, hit("x", 1<<32-1, 1))
	w.asks(t, get("b"), 108, status(api.StatusNone))
	w.asks(t, get("a"), 109, status(api.StatusNone))
}

// P18.4: whatever the Store says of what is put out: if there is no slot it is forgotten, and the command goes on.
func TestPutOutForgotten(t *testing.T) {
	w := fresh(t, plan{4, 24, 1, 1})
	w.oks(t, 0, set("a", ""), set("b", ""), set("c", ""))
	w.asks(t, set("great", long(500)), 0, ok(4))
	w.logged(t, "a")
	w.asks(t, get("b"), 0, status(api.StatusNone))
	w.asks(t, get("c"), 0, status(api.StatusNone))
	// There is no slot for great either.
	w.asks(t, get("a"), 0, hit("", 0, 1))
	w.asks(t, get("great"), 0, status(api.StatusNone))
	w.asks(t, ask(api.OpDelete, "a"), 0, status(api.StatusOK))
	w.oks(t, 0, set("b", "y"), persist())
	w.asks(t, get("b"), 0, hit("y", 0, 6))
}

// P18.4, P18.6: what is put out is kept in its key's own entry, also if the disk had it already, as a persist that failed left it.
func TestPutOutAgain(t *testing.T) {
	w := fresh(t, plan{4, 24, 1, 1})
	w.oks(t, 0, set("a", ""), set("k", "v"))
	w.asks(t, persist(), 0, status(api.StatusInternal))
	w.logged(t, "k")
	w.oks(t, 0, ask(api.OpDelete, "a"), set("great", long(500)))
	w.logged(t, "k", "k")
	if w.x.Store().Len() != 1 {
		t.Errorf("there are %d entries", w.x.Store().Len())
	}
	w.asks(t, get("k"), 0, hit("v", 0, 2))
}

// P18.4 to P18.6, P6: room is made ahead of each item that is put to the Store, and of each tombstone: of the two segments that are free then, one at least is free behind it, however many go there in one command.
func TestRoomAhead(t *testing.T) {
	for _, segments := range []int{4, 5, 8} {
		w := fresh(t, plan{segments, 24, 1024, 6})
		frees := func(what string) {
			t.Helper()
			if n := ring.Frees(w.x.Store().Log().Ring()); n < 1 {
				t.Fatalf("behind %s %d segments are free", what, n)
			}
		}
		for lap := range 40 {
			for i := range 30 {
				w.oks(t, 0, set("k"+strconv.Itoa(i), long(150+lap%3*90)))
				frees("a set")
			}
			w.oks(t, 0, set("great"+strconv.Itoa(lap%7), long(512)))
			frees("a great set")
			if lap%4 == 0 {
				w.oks(t, 0, persist())
				frees("a persist")
			}
			for i := range 30 {
				w.do(t, ask(api.OpDelete, "k"+strconv.Itoa(i*7%30)), 0)
				frees("a delete")
			}
		}
		if int(w.p.generation) < 10*segments {
			t.Errorf("generation %d of %d segments", w.p.generation, segments)
		}
	}
}

// P18.4 to P18.6: room is made for two segments: with two free nothing is cleaned ahead of what goes to the disk, with fewer it is.
func TestRoomForTwo(t *testing.T) {
	great := func(n int) api.Request { return set("great"+strconv.Itoa(n), long(512)) }
	for _, x := range []struct {
		n     int // how many great items are on the disk, each in a segment of its own
		q     api.Request
		steps int
	}{
		{1, persist(), 0}, {2, persist(), 0}, {1, set("great0", "x"), 0}, {2, set("great0", "x"), 0}, {2, ask(api.OpDelete, "great0"), 0},
		{3, persist(), 1}, {3, set("great0", "x"), 1}, {3, ask(api.OpDelete, "great1"), 1}, {3, ask(api.OpTouch, "great2"), 1},
		{3, get("great0"), 0}, {3, set("new", "x"), 0}, {3, ask(api.OpFlush, ""), 0},
	} {
		w := fresh(t, plan{4, 24, 64, 8})
		for i := range x.n {
			w.oks(t, 0, great(i), persist())
		}
		if n := ring.Frees(w.x.Store().Log().Ring()); n != 4-x.n {
			t.Fatalf("%d are free", n)
		}
		if x.q.Op == api.OpPersist {
			w.oks(t, 0, set("new", "x"))
		}
		was := w.p.steps
		w.oks(t, 0, x.q)
		if steps := w.p.steps - was; (steps > 0) != (x.steps > 0) {
			t.Errorf("%s with %d segments taken: %d Steps", wished(x.q), x.n, steps)
		}
		w.lies(t, 0)
	}
}

// P18.6: room is made at now: what has expired is not moved.
func TestRoomAtNow(t *testing.T) {
	for _, now := range []uint32{49, 50} {
		w := fresh(t, plan{4, 24, 64, 8})
		w.oks(t, 0, set("a", long(512), expiry(50)), persist(), set("b", long(512), expiry(50)), persist(), set("c", long(512)), persist(), set("d", "x"))
		w.oks(t, now, persist())
		if gone := w.p.entry("a") == nil; gone != (now == 50) {
			t.Errorf("at %d a is gone: %t", now, gone)
		}
		w.lies(t, now)
	}
}
