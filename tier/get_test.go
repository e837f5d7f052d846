package tier_test

import (
	"math"
	"testing"

	"icehouse/api"
)

// P18.3 (get): in each situation the value, the flags and the sequence, or that there is none; the item is in the Ram then, and what has expired there is not.
func TestGet(t *testing.T) {
	for _, s := range situations() {
		for _, v := range []string{"", "v", long(512)} {
			w := s.make(t, v)
			want := status(api.StatusNone)
			if s.seq > 0 {
				want = hit(v, 7, s.seq)
			}
			entries, known := w.p.len(), w.x.Store().Log().Super().Get()
			w.asks(t, get("k"), later, want)
			x, err := w.x.Ram().Peek([]byte("k"))
			switch {
			case s.seq == 0:
				is(t, err, api.ErrNone)
			case x.Dirty != (s.ram && !s.may) && s.name[:6] == "on the":
				t.Errorf("%s: found, it is Dirty: %t", s.name, x.Dirty)
			}
			if now := w.x.Store().Log().Super().Get(); now.Reserved != known.Reserved || now.Flush != known.Flush || w.p.len() < entries {
				t.Errorf("%s: known is %v, was %v", s.name, now, known)
			}
			// Once more, and the disk is not asked if the Ram has it.
			ops := w.d.Ops()
			w.asks(t, get("k"), later, want)
			if s.seq > 0 && w.d.Ops() != ops {
				t.Errorf("%s: the disk is asked for what the Ram has", s.name)
			}
		}
	}
}

// P18.3 (get): what expires is told till the second ahead, from the Ram and from the disk, and then never more.
func TestGetExpires(t *testing.T) {
	for _, now := range []uint32{0, 1, 100, 1 << 31, math.MaxUint32 - 7, math.MaxUint32 - 6} {
		for _, disk := range []bool{false, true} {
			w := fresh(t, one)
			w.oks(t, now, set("k", "v", expiry(6)))
			if disk {
				away(t, w)
			}
			for _, at := range []uint32{now, now + 1, now + 5} {
				w.asks(t, get("k"), at, hit("v", 0, 1))
				if disk {
					away(t, w)
				}
			}
			if at := now + 6; at > now {
				w.asks(t, get("k"), at, status(api.StatusNone))
			}
			w.asks(t, get("k"), math.MaxUint32, status(api.StatusNone))
		}
	}
}

// P18.3 (get): the item becomes the newest one of its class, as does that which was found on the disk; what gives way goes to the disk, if it is Dirty.
func TestGetTurns(t *testing.T) {
	w := fresh(t, one)
	w.oks(t, 0, set("a", long(400)), set("b", long(400)), get("a"), set("c", long(400)))
	w.has(t, "c", "a")
	if w.p.entry("b") == nil || w.p.entry("a") != nil {
		t.Error("the one that was not touched is not that on the disk")
	}
	w.asks(t, get("b"), 0, hit(long(400), 0, 2))
	w.has(t, "b", "c")
	w.asks(t, get("a"), 0, hit(long(400), 0, 1))
	w.has(t, "a", "b")
}

// has asks for just those keys in the Ram, in that order.
func (w *watched) has(t *testing.T, keys ...string) {
	t.Helper()
	w.tells(t, 0)
	l := w.m.all()
	for i, x := range l {
		if len(l) != len(keys) || string(x.Key) != keys[i] {
			t.Fatalf("the Ram has %s; the test asks for %q", items(l...), keys)
		}
	}
	if len(l) != len(keys) {
		t.Fatalf("the Ram has nothing; the test asks for %q", keys)
	}
}

// wishOf is a wish, and the expiry that it has at a moment.
type wishOf struct{ now, wish, expiry uint32 }

// wishes are wishes at the edges, at moments up to the last one.
var wishes = []wishOf{
	{0, 0, 0}, {100, 0, 0}, {math.MaxUint32, 0, 0},
	{0, 1, 1}, {100, 1, 101}, {math.MaxUint32 - 1, 1, math.MaxUint32}, {math.MaxUint32, 1, math.MaxUint32},
	{0, 2591999, 2591999}, {100, 2591999, 2592099}, {0, 2592000, 2592000}, {100, 2592000, 2592100},
	{math.MaxUint32 - 2592000, 2592000, math.MaxUint32}, {math.MaxUint32 - 2591999, 2592000, math.MaxUint32}, {math.MaxUint32, 2592000, math.MaxUint32},
	{0, 2592001, 2592001}, {100, 2592001, 2592001}, {2592001, 2592001, 2592001}, {math.MaxUint32, 2592001, 2592001},
	{0, math.MaxUint32 - 1, math.MaxUint32 - 1}, {0, math.MaxUint32, math.MaxUint32}, {100, math.MaxUint32, math.MaxUint32}, {math.MaxUint32, math.MaxUint32 - 1, math.MaxUint32 - 1},
}

// keptUntil asks for an item of k in the Ram with that expiry, which is told ahead of it, and not from it on.
func (w *watched) keptUntil(t *testing.T, now, expiry uint32) {
	t.Helper()
	x, err := w.x.Ram().Peek([]byte("k"))
	if err != api.OK || x.Expiry != expiry || !x.Dirty {
		t.Fatalf("the Ram has %s, error %d; the test asks for expiry %d", items(x), err, expiry)
	}
	if expiry > now+1 {
		if a := w.do(t, get("k"), expiry-1); a.Status != api.StatusOK {
			t.Fatalf("ahead of its expiry %d k is %s", expiry, told(a))
		}
	}
	if a := w.do(t, get("k"), max(expiry, now)); (a.Status == api.StatusNone) != (expiry > 0) {
		t.Fatalf("at its expiry %d k is %s", expiry, told(a))
	}
}

// P18.3 (touch, gat): the value and the flags stay, the expiry is that of the wish, the sequence is new; gat tells the value and the flags, touch does not.
func TestTouch(t *testing.T) {
	for _, x := range wishes {
		for _, op := range []int{api.OpTouch, api.OpGat} {
			for _, disk := range []bool{false, true} {
				w := fresh(t, small)
				w.oks(t, 0, set("k", "v", flags(1<<32-1)))
				seq := uint64(2)
				if disk {
					w.oks(t, 0, persist())
					seq = 3
				}
				want := ok(seq)
				if op == api.OpGat {
					want = hit("v", 1<<32-1, seq)
				}
				w.asks(t, ask(op, "k", expiry(x.wish)), x.now, want)
				w.keptUntil(t, x.now, x.expiry)
			}
		}
	}
}

// P18.3 (touch, gat): in each situation; where there is none nothing is written.
func TestTouchEverywhere(t *testing.T) {
	for _, s := range situations() {
		for _, op := range []int{api.OpTouch, api.OpGat} {
			w := s.make(t, "v")
			seq := w.x.Seq()
			if s.seq == 0 {
				w.asks(t, ask(op, "k", expiry(50)), later, status(api.StatusNone))
				if w.x.Seq() != seq {
					t.Errorf("%s: a sequence was given", s.name)
				}
				continue
			}
			if s.may {
				seq++
			}
			want := ok(seq + 1)
			if op == api.OpGat {
				want = hit("v", 7, seq+1)
			}
			w.asks(t, ask(op, "k", expiry(50)), later, want)
			w.asks(t, get("k"), later+49, hit("v", 7, seq+1))
			w.asks(t, get("k"), later+50, status(api.StatusNone))
		}
	}
}
