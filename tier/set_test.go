package tier_test

import (
	"testing"

	"icehouse/api"
)

// written is the sequence that a write has in the situation: the next one, or that behind the tombstone's.
func (s situation) written(w *watched) uint64 {
	if s.may {
		return w.x.Seq() + 2
	}
	return w.x.Seq() + 1
}

// tokens are a token's: none, the item's own, and others.
func (s situation) tokens() []uint64 { return []uint64{0, s.seq, s.seq + 1, s.seq + 77, 1<<64 - 1} }

// misfits tells whether the token is not that of the item that is there.
func (s situation) misfits(token uint64) bool { return s.seq > 0 && token > 0 && token != s.seq }

// P18.4 (set, add, replace): in each situation, with each token: the status, or the sequence, and what is told then.
func TestSetAddReplace(t *testing.T) {
	for _, s := range situations() {
		for _, token := range s.tokens() {
			for _, v := range []string{"", "new", long(512)} {
				for _, op := range []int{api.OpSet, api.OpAdd, api.OpReplace} {
					w := s.make(t, "old")
					want := ok(s.written(w))
					switch there := s.seq > 0; {
					case op == api.OpAdd && there:
						want = status(api.StatusThere)
					case op == api.OpAdd:
					case !there && (op == api.OpReplace || token != 0):
						want = status(api.StatusNone)
					case s.misfits(token):
						want = status(api.StatusThere)
					}
					w.asks(t, ask(op, "k", value(v), flags(9), expiry(3), cas(token)), later, want)
					after := status(api.StatusNone)
					switch {
					case want.Status == api.StatusOK:
						after = hit(v, 9, want.Cas)
					case s.seq > 0:
						after = hit("old", 7, s.seq)
					}
					w.asks(t, get("k"), later, after)
					w.lies(t, later)
				}
			}
		}
	}
}

// P18.4: the expiry of what is set, added and replaced is that of the wish.
func TestSetExpiry(t *testing.T) {
	for _, x := range wishes {
		for _, op := range []int{api.OpSet, api.OpAdd, api.OpReplace} {
			w := fresh(t, small)
			if op == api.OpReplace {
				w.oks(t, 0, set("k", "old", expiry(0)))
			}
			if a := w.do(t, ask(op, "k", value("v"), expiry(x.wish)), x.now); a.Status != api.StatusOK {
				t.Fatalf("op %d is %s", op, told(a))
			}
			w.keptUntil(t, x.now, x.expiry)
		}
	}
}

// P18.4 (append, prepend): in each situation, with each token.
func TestJoin(t *testing.T) {
	for _, s := range situations() {
		for _, token := range s.tokens() {
			for _, op := range []int{api.OpAppend, api.OpPrepend} {
				w := s.make(t, "old")
				want := ok(s.written(w))
				switch {
				case s.seq == 0:
					want = status(api.StatusNot)
				case s.misfits(token):
					want = status(api.StatusThere)
				}
				w.asks(t, ask(op, "k", value("+new"), flags(9), expiry(1), cas(token)), later, want)
				after := status(api.StatusNone)
				switch {
				case want.Status == api.StatusOK && op == api.OpAppend:
					after = hit("old+new", 7, want.Cas)
				case want.Status == api.StatusOK:
					after = hit("+newold", 7, want.Cas)
				case s.seq > 0:
					after = hit("old", 7, s.seq)
				}
				w.asks(t, get("k"), later, after)
				w.lies(t, later)
			}
		}
	}
}

// P18.4 (append, prepend): both values have at most MaxValue bytes together; a token that does not fit is told ahead of that, and that there is none ahead of both. A value that is too long by itself goes ahead of all of these.
func TestJoinLarge(t *testing.T) {
	for _, op := range []int{api.OpAppend, api.OpPrepend} {
		for _, n := range []int{0, 1, 255, 256, 257, 511, 512} {
			for _, more := range []int{0, 1, 255, 256, 257, 511, 512, 513} {
				w := fresh(t, small)
				q := ask(op, "k", value(long(more)))
				none, other := status(api.StatusNot), status(api.StatusThere)
				if more > 512 {
					none, other = status(api.StatusLarge), status(api.StatusLarge)
				}
				w.asks(t, q, 0, none)
				w.oks(t, 0, set("k", long(n), flags(3)))
				q.Cas = 2
				w.asks(t, q, 0, other)
				q.Cas = 1
				if more+n > 512 {
					w.asks(t, q, 0, status(api.StatusLarge))
					w.asks(t, get("k"), 0, hit(long(n), 3, 1))
					continue
				}
				w.asks(t, q, 0, ok(2))
				v := long(n) + long(more)
				if op == api.OpPrepend {
					v = long(more) + long(n)
				}
				w.asks(t, get("k"), 0, hit(v, 3, 2))
			}
		}
	}
}

// P18.4 (append, prepend): the flags and the expiry stay, whatever the request says.
func TestJoinKeepsExpiry(t *testing.T) {
	for _, op := range []int{api.OpAppend, api.OpPrepend} {
		w := fresh(t, small)
		w.oks(t, 100, set("k", "v", flags(5), expiry(10)))
		w.asks(t, ask(op, "k", value("v"), flags(6), expiry(90)), 105, ok(2))
		w.asks(t, get("k"), 109, hit("vv", 5, 2))
		w.asks(t, get("k"), 110, status(api.StatusNone))
	}
}

// P18.4: keys and values of the greatest length, and a value without bytes, stay as they are, in the Ram and on the disk.
func TestGreatest(t *testing.T) {
	for _, key := range []int{1, 250} {
		for _, v := range []int{0, 1, 512} {
			for _, p := range []plan{one, small} {
				w := fresh(t, p)
				w.oks(t, 0, set(long(key), long(v), flags(1<<32-1)))
				w.asks(t, get(long(key)), 0, hit(long(v), 1<<32-1, 1))
				w.oks(t, 0, persist())
				w.crash(t, nil)
				w.asks(t, get(long(key)), 0, hit(long(v), 1<<32-1, 1))
				w.asks(t, ask(api.OpTouch, long(key)), 0, ok(1026))
				w.asks(t, ask(api.OpDelete, long(key)), 0, status(api.StatusOK))
			}
		}
	}
}
