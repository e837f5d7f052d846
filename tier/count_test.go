package tier_test

import (
	"math"
	"testing"

	"icehouse/api"
)

// P18.5 (delete): in each situation, with each token; what was deleted is not told, behind a crash neither, whatever lives on.
func TestDelete(t *testing.T) {
	for _, s := range situations() {
		for _, token := range s.tokens() {
			w := s.make(t, "old")
			seq := w.x.Seq()
			want, after := status(api.StatusOK), status(api.StatusNone)
			switch {
			case s.seq == 0:
				want = status(api.StatusNone)
			case s.misfits(token):
				want, after = status(api.StatusThere), hit("old", 7, s.seq)
			case s.may:
				seq++
			}
			w.asks(t, ask(api.OpDelete, "k", cas(token)), later, want)
			if w.x.Seq() != seq {
				t.Errorf("%s: Seq is %d; the test asks for %d", s.name, w.x.Seq(), seq)
			}
			w.asks(t, get("k"), later, after)
			if want.Status == api.StatusOK {
				for _, keep := range keeps(len(w.d.Pending())) {
					y := made(t, reopened(t, w, keep), 1)
					if a := y.Do(get("k"), later); !sameAnswer(a, status(api.StatusNone)) {
						t.Errorf("%s: behind a crash it is %s", s.name, told(a))
					}
				}
			}
		}
	}
}

// turned is a value, what it is turned by, and what comes of it.
type turned struct {
	v    string
	by   uint64
	down bool
	to   uint64
}

var turns = []turned{
	{"10", 3, false, 13}, {"10", 3, true, 7}, {"10", 10, true, 0}, {"10", 11, true, 0}, {"10", 0, false, 10}, {"10", 0, true, 10},
	{"0", 0, true, 0}, {"0", 1, true, 0}, {"0", math.MaxUint64, true, 0}, {"0", math.MaxUint64, false, math.MaxUint64},
	{"18446744073709551615", 1, false, 0}, {"18446744073709551615", math.MaxUint64, false, math.MaxUint64 - 1},
	{"18446744073709551615", math.MaxUint64, true, 0}, {"18446744073709551615", 0, false, math.MaxUint64}, {"18446744073709551615", 1, true, math.MaxUint64 - 1},
	{"18446744073709551600", 16, false, 0}, {"18446744073709551600", 15, false, math.MaxUint64}, {"18446744073709551600", 17, false, 1},
	{"007", 3, false, 10}, {"007", 0, true, 7}, {"00000000000000000000", 1, false, 1}, {"00000000000000000009", 1, true, 8}, {"99", 1, false, 100}, {"100", 1, true, 99},
}

func countOp(down bool) int {
	if down {
		return api.OpDecr
	}
	return api.OpIncr
}

// P18.5 (incr, decr): what a number is turned to, past 2^64 - 1 and below 0 too; its text stands without noughts ahead; the flags and the expiry stay.
func TestCount(t *testing.T) {
	for _, x := range turns {
		for _, wish := range []uint32{0, 5, api.NoInitial} {
			w := fresh(t, small)
			w.oks(t, 100, set("k", x.v, flags(3), expiry(20)))
			w.asks(t, ask(countOp(x.down), "k", delta(x.by), initial(77), expiry(wish), flags(9)), 101, api.Answer{Cas: 2, Number: x.to})
			w.asks(t, get("k"), 119, hit(number(x.to), 3, 2))
			w.asks(t, get("k"), 120, status(api.StatusNone))
		}
	}
}

// P18.5 (incr, decr): in each situation, with each token, with an initial value and without one.
func TestCountEverywhere(t *testing.T) {
	for _, s := range situations() {
		for _, token := range s.tokens() {
			for _, wish := range []uint32{0, 3, api.NoInitial - 1, api.NoInitial} {
				for _, down := range []bool{false, true} {
					w := s.make(t, "10")
					want := api.Answer{Cas: s.written(w), Number: 15}
					if down {
						want.Number = 5
					}
					after := hit(number(want.Number), 7, want.Cas)
					switch {
					case s.seq == 0 && wish == api.NoInitial:
						want, after = status(api.StatusNone), status(api.StatusNone)
					case s.seq == 0:
						want.Number = math.MaxUint64
						after = hit("18446744073709551615", 0, want.Cas)
					case s.misfits(token):
						want, after = status(api.StatusThere), hit("10", 7, s.seq)
					}
					w.asks(t, ask(countOp(down), "k", delta(5), initial(math.MaxUint64), expiry(wish), cas(token), flags(9)), later, want)
					w.asks(t, get("k"), later, after)
				}
			}
		}
	}
}

// P18.5 (incr, decr): the initial value's text, and its expiry; NoInitial makes nothing, and the number below it is a wish like others.
func TestInitial(t *testing.T) {
	for _, n := range []uint64{0, 1, 9, 10, 12345, math.MaxUint64} {
		for _, x := range wishes {
			for _, down := range []bool{false, true} {
				w := fresh(t, small)
				ops := w.d.Ops()
				q := ask(countOp(down), "k", delta(5), initial(n), expiry(x.wish), flags(9))
				if x.wish == api.NoInitial {
					w.asks(t, q, x.now, status(api.StatusNone))
					if w.x.Seq() != 0 || w.d.Ops() != ops {
						t.Fatalf("Seq is %d, the disk did %d operations", w.x.Seq(), w.d.Ops()-ops)
					}
					continue
				}
				w.asks(t, q, x.now, api.Answer{Cas: 1, Number: n})
				if l := w.m.all(); string(l[0].Value) != number(n) || l[0].Flags != 0 {
					t.Fatalf("the Ram has %s", items(l...))
				}
				w.keptUntil(t, x.now, x.expiry)
			}
		}
	}
}

// P18.5 (incr, decr): a value that is no number's text; a token that does not fit is told ahead of that. Nothing changes.
func TestNoNumber(t *testing.T) {
	for _, v := range []string{"", "x", "1x", "x1", " 1", "1 ", "-1", "+1", "1.0", "0x1", "18446744073709551616", "99999999999999999999", "000000000000000000000", "000000000000000000001", "\xff", "\u0661", "1\x00", long(512)} {
		for _, down := range []bool{false, true} {
			w := fresh(t, small)
			w.oks(t, 0, set("k", v))
			w.asks(t, ask(countOp(down), "k", delta(1), initial(5), cas(2)), 0, status(api.StatusThere))
			w.asks(t, ask(countOp(down), "k", delta(1), initial(5), cas(1)), 0, status(api.StatusNumber))
			w.asks(t, ask(countOp(down), "k", delta(1), initial(5), expiry(api.NoInitial)), 0, status(api.StatusNumber))
			w.asks(t, get("k"), 0, hit(v, 0, 1))
			if w.x.Seq() != 1 {
				t.Fatal("a sequence was given")
			}
		}
	}
}

// P18.5: what is turned goes on from what it was turned to, on the disk, too.
func TestCountOn(t *testing.T) {
	w := fresh(t, one)
	n := uint64(math.MaxUint64 - 20)
	for i := range 60 {
		a := w.do(t, ask(api.OpIncr, "n", delta(7), initial(n)), 0)
		if i > 0 {
			n += 7
		}
		if a.Number != n || a.Status != api.StatusOK {
			t.Fatalf("it is %s; the test asks for %d", told(a), n)
		}
		switch i % 4 {
		case 1:
			away(t, w)
		case 2:
			w.oks(t, 0, persist())
		case 3:
			w.oks(t, 0, persist())
			w.crash(t, nil)
		}
	}
}
