package tier_test

import (
	"slices"
	"strconv"
	"testing"

	"icehouse/api"
	"icehouse/clean"
)

// one is a plan in which a single great item fills the memory.
var one = plan{4, 24, 64, 1}

// situation is where the key k is, with a value, flags 7, and, at 105, a sequence (0: it is not found). What is told of it is told at 105.
type situation struct {
	name string
	make func(t *testing.T, v string) *watched
	seq  uint64
	ram  bool // whether memory has it, expired or not
	may  bool // whether the disk may have it
}

// later is the moment at which the situations are asked; k was put at 100.
const later = 105

// away puts all that is there out of a memory of one page, by a great item that is deleted then; that takes the sequence behind the last one.
func away(t *testing.T, w *watched) {
	t.Helper()
	w.oks(t, 100, set("great", long(480)), ask(api.OpDelete, "great"))
}

// putK sets k at 100.
func putK(t *testing.T, p plan, v string, more ...func(*api.Request)) *watched {
	t.Helper()
	w := fresh(t, p)
	w.oks(t, 100, set("k", v, append(more, flags(7))...))
	return w
}

// situations are all places in which k can be.
func situations() []situation {
	return []situation{
		{"not there", func(t *testing.T, v string) *watched { return fresh(t, one) }, 0, false, false},
		{"others are there", func(t *testing.T, v string) *watched {
			w := fresh(t, one)
			w.oks(t, 100, set("j", v), persist(), set("kk", v))
			return w
		}, 0, false, false},
		{"in the Ram alone", func(t *testing.T, v string) *watched { return putK(t, one, v) }, 1, true, false},
		{"in the Ram alone, with an expiry", func(t *testing.T, v string) *watched { return putK(t, one, v, expiry(6)) }, 1, true, false},
		{"in the Ram alone, among others", func(t *testing.T, v string) *watched {
			w := putK(t, small, v)
			w.oks(t, 100, set("j", v), persist(), set("kk", v), set("k", v, flags(7)))
			return w
		}, 5, true, true},
		{"on the disk alone", func(t *testing.T, v string) *watched {
			w := putK(t, one, v)
			away(t, w)
			return w
		}, 1, false, true},
		{"on the disk alone, with an expiry", func(t *testing.T, v string) *watched {
			w := putK(t, one, v, expiry(6))
			away(t, w)
			return w
		}, 1, false, true},
		{"on the disk alone, and another one fills the Ram", func(t *testing.T, v string) *watched {
			w := putK(t, one, v)
			w.oks(t, 100, set("great", long(480)))
			return w
		}, 1, false, true},
		{"on the disk alone, behind a crash", func(t *testing.T, v string) *watched {
			w := putK(t, one, v)
			w.oks(t, 100, persist())
			w.crash(t, nil)
			return w
		}, 1, false, true},
		{"on both, persisted", func(t *testing.T, v string) *watched {
			w := putK(t, one, v)
			w.oks(t, 100, persist())
			return w
		}, 1, true, true},
		{"on both, found on the disk", func(t *testing.T, v string) *watched {
			w := putK(t, one, v)
			away(t, w)
			w.oks(t, 100, get("k"))
			return w
		}, 1, true, true},
		{"on both, Dirty", func(t *testing.T, v string) *watched {
			w := fresh(t, plan{4, 24, 1, 2})
			w.oks(t, 100, set("j", v), set("k", v, flags(7)))
			if a := w.do(t, persist(), 100); a.Status != api.StatusInternal || w.p.entry("k") == nil {
				t.Fatal("k is not the one that was put")
			}
			return w
		}, 2, true, true},
		{"in the Ram, written anew over what the disk had", func(t *testing.T, v string) *watched {
			w := putK(t, one, "elder")
			w.oks(t, 100, persist(), set("k", v, flags(7)))
			return w
		}, 3, true, true},
		{"in the Ram, whose copy on the disk was dropped", func(t *testing.T, v string) *watched {
			w := putK(t, plan{4, 24, 64, 4}, v)
			w.oks(t, 100, persist(), set("great", long(512)), persist(), set("other", long(512)), persist())
			_, err := clean.Drop(w.x.Store())
			is(t, err, api.OK)
			w.p.retire()
			if w.p.entry("k") != nil {
				t.Fatal("k is on the disk still")
			}
			return w
		}, 1, true, false},
		{"expired in the Ram", func(t *testing.T, v string) *watched { return putK(t, one, v, expiry(5)) }, 0, true, false},
		{"expired on the disk", func(t *testing.T, v string) *watched {
			w := putK(t, one, v, expiry(5))
			away(t, w)
			return w
		}, 0, false, true},
		{"expired on both", func(t *testing.T, v string) *watched {
			w := putK(t, one, v, expiry(5))
			w.oks(t, 100, persist())
			return w
		}, 0, true, true},
		{"deleted, from the Ram", func(t *testing.T, v string) *watched {
			w := putK(t, one, v)
			w.oks(t, 100, ask(api.OpDelete, "k"))
			return w
		}, 0, false, false},
		{"deleted, from the disk", func(t *testing.T, v string) *watched {
			w := putK(t, one, v)
			w.oks(t, 100, persist(), ask(api.OpDelete, "k"))
			return w
		}, 0, false, true},
		{"flushed, from the Ram", func(t *testing.T, v string) *watched {
			w := putK(t, one, v)
			w.oks(t, 100, ask(api.OpFlush, ""))
			return w
		}, 0, false, false},
		{"flushed, from the disk", func(t *testing.T, v string) *watched {
			w := putK(t, one, v)
			w.oks(t, 100, persist(), ask(api.OpFlush, ""))
			return w
		}, 0, false, true},
		{"not there, but the filter says that it may be", func(t *testing.T, v string) *watched {
			w := fresh(t, one)
			for _, key := range covering("k") {
				w.oks(t, 100, set(key, ""), persist())
			}
			return w
		}, 0, false, true},
	}
}

// covering are keys that have, all together, the bits of that key in a filter.
func covering(key string) []string {
	var l []string
	left := bitsOf(key)
	for i := 0; len(left) > 0; i++ {
		other := "f" + strconv.Itoa(i)
		n := len(left)
		left = slices.DeleteFunc(left, func(bit uint32) bool { return slices.Contains(bitsOf(other), bit) })
		if len(left) < n {
			l = append(l, other)
		}
	}
	return l
}

// The situations are what they say.
func TestSituations(t *testing.T) {
	for _, s := range situations() {
		w := s.make(t, "10")
		w.lies(t, later)
		if ram := w.m.at("k") >= 0; ram != s.ram || w.p.may("k") != s.may {
			t.Errorf("%s: in the Ram %t, may be on the disk %t", s.name, ram, w.p.may("k"))
		}
		want := status(api.StatusNone)
		if s.seq > 0 {
			want = hit("10", 7, s.seq)
		}
		w.asks(t, get("k"), later, want)
	}
}

// values are those that k can have: numbers, none, and such to which much or little can be joined.
var values = []string{"10", "", "x", "18446744073709551615", "18446744073709551616", "007", long(500), long(512)}

// requests are requests of all commands for k, of which some look at the sequence that k has.
func requests(seq uint64) []api.Request {
	var l []api.Request
	tokens := []uint64{0, seq, seq + 1, 1<<64 - 1}
	wishes := []uint32{0, 1, api.Month, api.Month + 1, api.NoInitial - 1, api.NoInitial}
	for _, op := range []int{api.OpGet, api.OpSet, api.OpAdd, api.OpReplace, api.OpDelete, api.OpIncr, api.OpDecr, api.OpAppend, api.OpPrepend, api.OpTouch, api.OpGat} {
		for _, token := range tokens {
			l = append(l, ask(op, "k", cas(token), value("12"), flags(9), delta(3), initial(5)))
		}
		for _, wish := range wishes {
			l = append(l, ask(op, "k", expiry(wish), value("0"), flags(1<<32-1), delta(1<<64-1), initial(1<<64-1)))
		}
		for _, n := range []int{0, 12, 13, 508, 512, 513} {
			l = append(l, ask(op, "k", value(long(n)), delta(11)))
		}
	}
	for _, op := range []int{api.OpQuit, api.OpFlush, api.OpNoop, api.OpVersion, api.OpStat, api.OpPersist} {
		l = append(l, ask(op, ""), ask(op, "k", value("v"), cas(seq+1)), ask(op, "", expiry(1)), ask(op, long(251), value(long(513))))
	}
	return append(l, ask(9, "k"), ask(api.OpGet, "k", bad(api.StatusNot)))
}

// P18.2 to P18.6: every command on k in each situation, of each value: against the words; then k once more, and once more behind a crash.
func TestEverywhere(t *testing.T) {
	for _, s := range situations() {
		t.Run(s.name, func(t *testing.T) {
			t.Parallel()
			for i, v := range values {
				for j, q := range requests(s.seq) {
					w := s.make(t, v)
					w.do(t, q, later)
					if (i+j)%8 == 0 {
						w.lies(t, later)
					}
					w.do(t, get("k"), later)
					w.do(t, get("k"), later+1)
					w.do(t, persist(), later+1)
					if (i+j)%4 == 0 {
						w.crash(t, nil)
						w.do(t, get("k"), later+2)
					}
				}
			}
		})
	}
}
