package ring_test

import (
	"testing"

	"icehouse/api"
	"icehouse/ring"
)

// must is the ring beside which there is no error.
func must(t *testing.T) func(r api.Ring, err api.Errno) api.Ring {
	t.Helper()
	return func(r api.Ring, err api.Errno) api.Ring {
		t.Helper()
		if err != api.OK {
			t.Fatalf("error %d", err)
		}
		return r
	}
}

// starts is the ring in which that segment was opened.
func starts(t *testing.T, r api.Ring, generation uint64, at int) api.Ring {
	t.Helper()
	x, i, err := ring.Open(r, generation)
	if i != at || err != api.OK {
		t.Fatalf("Open(%v, %d) is %d, error %d; asked is %d", r, generation, i, err, at)
	}
	return x
}

// The chapter's examples, and P8.1, P8.2, P8.4.
func TestExamples(t *testing.T) {
	r := made(t, 4, 24)
	told(t, r)
	at, err := ring.Next(r)
	number(t, r, "Next", at, err, 0, api.OK)
	at, err = ring.Opened(r)
	number(t, r, "Opened", at, err, -1, api.ErrNone)
	at, err = ring.Oldest(r)
	number(t, r, "Oldest", at, err, -1, api.ErrNone)
	if n := ring.Frees(r); n != 4 {
		t.Errorf("Frees is %d", n)
	}
	one := starts(t, r, 3, 0)
	if n := ring.Left(one); n != 23 {
		t.Errorf("Left is %d", n)
	}
	one = must(t)(ring.Use(one, 23))
	if n := ring.Left(one); n != 0 {
		t.Errorf("Left is %d", n)
	}
	if _, err := ring.Use(one, 1); err != api.ErrFull {
		t.Errorf("Use(1) of a full one is %d", err)
	}
	one = must(t)(ring.Seal(one))
	if _, _, err := ring.Open(one, 3); err != api.ErrArg {
		t.Errorf("Open(3) behind 3 is %d", err)
	}
	two := must(t)(ring.Seal(starts(t, one, 4, 1)))
	at, err = ring.Oldest(two)
	number(t, two, "Oldest", at, err, 0, api.OK)
	two = must(t)(ring.Free(two, 0))
	at, err = ring.Next(two)
	number(t, two, "Next", at, err, 2, api.OK)
	at, err = ring.Oldest(two)
	number(t, two, "Oldest", at, err, 1, api.OK)
	for _, size := range [][2]int{{3, 24}, {4, 65}} {
		if _, err := ring.New(size[0], size[1]); err != api.ErrArg {
			t.Errorf("New%v is %d", size, err)
		}
	}
	if _, err := ring.Free(r, 4); err != api.ErrArg {
		t.Errorf("Free(4) is %d", err)
	}
}

// follows tells whether a ring on which one works in that way is as P8.5 says: it may be, its sealed ones stand side by side from the oldest to the latest, and none is lost.
func follows(t *testing.T, r api.Ring) {
	t.Helper()
	if err := ring.Check(r); err != api.OK || !mayBe(r) {
		t.Fatalf("%v may not be: error %d", r, err)
	}
	inOrder, sealedOnes := 0, 0
	for _, s := range ring.Order(r) {
		inOrder++
		if s.State == api.SegSealed {
			sealedOnes++
		}
	}
	if ring.Frees(r)+inOrder != len(r.Segs) {
		t.Fatalf("%v: %d are free, %d in order", r, ring.Frees(r), inOrder)
	}
	at, err := ring.Oldest(r)
	if err != api.OK && sealedOnes > 0 {
		t.Fatalf("%v: Oldest is %d", r, err)
	}
	var ahead uint64
	for range sealedOnes {
		s := r.Segs[at]
		if s.State != api.SegSealed || s.Generation <= ahead {
			t.Fatalf("%v: %d does not stand beside those ahead of it", r, at)
		}
		ahead, at = s.Generation, (at+1)%len(r.Segs)
	}
	if i, err := ring.Opened(r); err == api.OK && sealedOnes > 0 && i != at {
		t.Fatalf("%v: the open one does not stand behind the sealed ones", r)
	}
}

// worker works on a ring as a log does, choosing by a row of numbers that hangs on its seed alone.
type worker struct {
	r          api.Ring
	generation uint64
	seed       uint64
}

// pick is one of the numbers below n.
func (w *worker) pick(n int) int {
	w.seed = w.seed*6364136223846793005 + 1442695040888963407
	return int(w.seed >> 33 % uint64(n))
}

// step does one thing, whatever there is to do.
func (w *worker) step(t *testing.T) {
	t.Helper()
	switch w.pick(8) {
	case 0, 1:
		if w.generation < top/2 {
			opens(t, w.r, w.generation)
			w.generation += uint64(1 + w.pick(3))
		}
		if x, at, err := ring.Open(w.r, w.generation); err == api.OK {
			if next, wrong := ring.Next(w.r); next != at || wrong != api.OK {
				t.Fatalf("Next(%v) is %d, but Open told %d", w.r, next, at)
			}
			w.r = x
		}
	case 2, 3, 4:
		if x, err := ring.Use(w.r, w.pick(ring.Left(w.r)+1)); err == api.OK {
			w.r = x
		}
	case 5, 6:
		if x, err := ring.Seal(w.r); err == api.OK {
			w.r = x
		}
	case 7:
		if at, err := ring.Oldest(w.r); err == api.OK {
			w.r = must(t)(ring.Free(w.r, at))
		}
	}
}

// P8.5: long runs of all that a log does, on rings of all numbers of segments.
func TestRuns(t *testing.T) {
	for n := 4; n <= 16; n++ {
		for seed := range 6 {
			w := worker{r: made(t, n, 24+8*seed), seed: uint64(100*n + seed)}
			for range 500 {
				w.step(t)
				follows(t, w.r)
				told(t, w.r)
			}
			turns(t, w.r)
		}
	}
}

// P8.5: lap by lap, with as many sealed ones as there may be at once, each place is opened once a lap, round and round.
func TestLaps(t *testing.T) {
	for n := 4; n <= 16; n++ {
		for most := range n + 1 {
			r, generation := made(t, n, 24), uint64(1)
			for lap := range 4 {
				for i := range n {
					// Of a ring that is all free, the next one is 0 again.
					at := i
					if most == 0 {
						at = 0
					}
					if n == most && lap > 0 {
						r = freed(t, r)
					}
					r = starts(t, r, generation, at)
					follows(t, r)
					r = must(t)(ring.Use(r, i%24))
					follows(t, r)
					r = must(t)(ring.Seal(r))
					follows(t, r)
					for n-ring.Frees(r) > most {
						r = freed(t, r)
					}
					generation += uint64(lap + 1)
				}
			}
			turns(t, r)
		}
	}
}

// freed is the ring in which the oldest is free.
func freed(t *testing.T, r api.Ring) api.Ring {
	t.Helper()
	at, err := ring.Oldest(r)
	if err != api.OK {
		t.Fatalf("Oldest(%v): error %d", r, err)
	}
	x := must(t)(ring.Free(r, at))
	follows(t, x)
	return x
}

// P8.5: with one open all the time, and all others sealed, there is no next one; Free of the oldest makes it.
func TestFullOpen(t *testing.T) {
	for n := 4; n <= 16; n++ {
		r := made(t, n, 64)
		for i := range 3 * n {
			g := uint64(2*i + 1)
			if i >= n {
				at, err := ring.Next(r)
				number(t, r, "Next", at, err, -1, api.ErrFull)
				r = must(t)(ring.Seal(r))
				if _, _, err := ring.Open(r, g); err != api.ErrFull {
					t.Fatalf("Open(%v) is %d", r, err)
				}
				r = freed(t, r)
			} else if i > 0 {
				r = must(t)(ring.Seal(r))
			}
			r = starts(t, r, g, i%n)
			follows(t, r)
			told(t, r)
		}
	}
}
