package tier_test

import (
	"math"
	"testing"

	"icehouse/api"
)

// ops are all commands; keyed are those with a key, valued those whose value is asked for.
var (
	keyed   = []int{api.OpGet, api.OpTouch, api.OpGat, api.OpDelete, api.OpIncr, api.OpDecr, api.OpSet, api.OpAdd, api.OpReplace, api.OpAppend, api.OpPrepend}
	valued  = map[int]bool{api.OpSet: true, api.OpAdd: true, api.OpReplace: true, api.OpAppend: true, api.OpPrepend: true}
	keyless = []int{api.OpQuit, api.OpFlush, api.OpNoop, api.OpVersion, api.OpStat, api.OpPersist}
)

// known are all commands' numbers.
var known = map[int]bool{0: true, 1: true, 2: true, 3: true, 4: true, 5: true, 6: true, 7: true, 8: true, 10: true, 11: true, 14: true, 15: true, 16: true, 28: true, 29: true, 64: true}

// P18.2: what is no command, whatever else the request says, changes nothing.
func TestUnknown(t *testing.T) {
	w := fresh(t, small)
	w.oks(t, 0, set("k", "v"), persist(), set("j", "v"))
	var l []int
	for op := -300; op < 600; op++ {
		l = append(l, op)
	}
	unknown := 0
	ops := w.d.Ops()
	for _, op := range append(l, math.MinInt, math.MinInt32, -1<<16, 1<<16, 1<<16+1, 1<<32, 1<<32+1, math.MaxInt) {
		if known[op] {
			continue
		}
		unknown++
		for _, q := range []api.Request{ask(op, ""), ask(op, "k", value("x")), ask(op, long(251)), ask(op, "k", value(long(513)), expiry(1), cas(9))} {
			w.asks(t, q, 0, status(api.StatusUnknown))
		}
	}
	if unknown != 900+8-len(known) || w.d.Ops() != ops {
		t.Errorf("%d are unknown; the disk did %d operations", unknown, w.d.Ops()-ops)
	}
}

// P18.2: a Bad that is not StatusOK is told ahead of all else, and changes nothing.
func TestBad(t *testing.T) {
	w := fresh(t, small)
	w.oks(t, 0, set("k", "1"), persist(), set("j", "v"))
	ops := w.d.Ops()
	for _, n := range []int{api.StatusNone, api.StatusThere, api.StatusLarge, api.StatusArgs, api.StatusNot, api.StatusNumber, api.StatusUnknown, api.StatusInternal, -1, 7, 1 << 16, math.MinInt, math.MaxInt} {
		for op := -1; op < 70; op++ {
			for _, q := range []api.Request{ask(op, "k", value("1"), bad(n)), ask(op, "", bad(n)), ask(op, long(251), value(long(513)), expiry(1), bad(n))} {
				w.asks(t, q, 0, status(n))
			}
		}
	}
	if w.d.Ops() != ops {
		t.Error("the disk was asked")
	}
}

// P18.2: keys of no bytes, and of more than MaxKey, are told ahead of values of more than MaxValue; these, of the commands that have one, ahead of all that hangs on what is there. Nothing changes.
func TestKeysAndValues(t *testing.T) {
	for _, op := range keyed {
		for _, key := range []int{0, 1, 2, 249, 250, 251, 252, 506, 1000, 65537} {
			for _, v := range []int{0, 1, 511, 512, 513, 514, 1024, 65536} {
				w := fresh(t, small)
				for _, there := range []bool{false, true} {
					q := ask(op, long(key), value(long(v)), expiry(1), cas(99))
					switch {
					case key == 0 || key > 250:
						w.asks(t, q, 0, status(api.StatusArgs))
					case valued[op] && v > 512:
						w.asks(t, q, 0, status(api.StatusLarge))
					default:
						w.do(t, q, 0)
					}
					if !there && key > 0 && key < 251 {
						w.oks(t, 0, set(long(key), long(300)), persist())
					}
				}
			}
		}
	}
}

// P18.2: no command that has no key looks at one, or at a value.
func TestKeyless(t *testing.T) {
	w := fresh(t, small)
	w.oks(t, 0, set("k", "1"))
	for _, op := range keyless {
		want := w.do(t, ask(op, ""), 0)
		if want.Status != api.StatusOK {
			t.Fatalf("op %d is %s", op, told(want))
		}
		if op == api.OpFlush {
			continue
		}
		for _, key := range []int{1, 250, 251, 65537} {
			for _, v := range []int{0, 512, 513, 65536} {
				got := w.do(t, ask(op, long(key), value(long(v)), flags(7), cas(9), delta(3), initial(4)), 0)
				if op != api.OpStat && !sameAnswer(got, want) {
					t.Errorf("op %d with a key of %d bytes and a value of %d is %s", op, key, v, told(got))
				}
			}
		}
	}
	if a := w.x.Do(ask(api.OpFlush, long(251), value(long(513)), cas(9)), 0); a.Status != api.StatusOK {
		t.Errorf("flush with a key is %s", told(a))
	}
}

// P18.2 to P18.6: what a command does not name is not looked at: in each situation it is answered as if that had not been said, and the same comes of it.
func TestNotLookedAt(t *testing.T) {
	type loose struct {
		ops  []int
		more []func(*api.Request)
	}
	how := func(q *api.Request) { q.Quiet, q.Full, q.Opaque = true, true, 1<<32-1 }
	named := []loose{
		{append(keyed, keyless...), []func(*api.Request){how}},
		{[]int{api.OpGet}, []func(*api.Request){cas(99), expiry(1), flags(3), value(long(600)), delta(1), initial(1)}},
		{[]int{api.OpTouch, api.OpGat}, []func(*api.Request){cas(99), flags(3), value(long(600)), delta(1), initial(1)}},
		{[]int{api.OpAdd}, []func(*api.Request){cas(99), delta(1), initial(1)}},
		{[]int{api.OpSet, api.OpReplace}, []func(*api.Request){delta(1), initial(1)}},
		{[]int{api.OpAppend, api.OpPrepend}, []func(*api.Request){expiry(1), flags(3), delta(1), initial(1)}},
		{[]int{api.OpDelete}, []func(*api.Request){expiry(1), flags(3), value(long(600)), delta(1), initial(1)}},
		{[]int{api.OpIncr, api.OpDecr}, []func(*api.Request){flags(3), value(long(600))}},
		{[]int{api.OpQuit, api.OpNoop, api.OpVersion, api.OpStat, api.OpPersist}, []func(*api.Request){expiry(1)}},
		{keyless, []func(*api.Request){cas(99), flags(3), value(long(600)), delta(1), initial(1)}},
	}
	for _, s := range situations() {
		for _, x := range named {
			for _, op := range x.ops {
				for _, f := range x.more {
					a, b := s.make(t, "10"), s.make(t, "10")
					q := ask(op, "k")
					if valued[op] {
						q.Value = []byte("5")
					}
					want := a.do(t, q, later)
					f(&q)
					b.asks(t, q, later, want)
					sameState(t, a.x, b.x)
				}
			}
		}
	}
}
