package ring_test

import (
	"math"
	"testing"

	"icehouse/api"
	"icehouse/ring"
)

// turning is a call that turns a ring by a number, or what it is to answer.
type turning func(r api.Ring, n int) (api.Ring, api.Errno)

// answers tells whether a call answers what is asked, which may be if there is one, in new memory, and leaves the ring it is given.
func answers(t *testing.T, name string, r api.Ring, n int, call, asked turning) {
	t.Helper()
	was := copied(r)
	want, wanted := asked(was, n)
	got, err := call(r, n)
	if err != wanted || !alike(got, want) {
		t.Fatalf("%s(%v, %d) is %v, error %d; asked is %v, error %d", name, was, n, got, err, want, wanted)
	}
	stays(t, r, was)
	if err != 0 {
		return
	}
	if ring.Check(got) != 0 || !mayBe(got) {
		t.Fatalf("%s(%v, %d): %v may not be", name, was, n, got)
	}
	for i := range got.Segs {
		got.Segs[i] = room
	}
	stays(t, r, was)
}

// opens tells whether Open answers what is asked.
func opens(t *testing.T, r api.Ring, generation uint64) {
	t.Helper()
	at, place := 0, 0
	answers(t, "Open", r, 0, func(r api.Ring, _ int) (x api.Ring, err api.Errno) {
		x, at, err = ring.Open(r, generation)
		return x, err
	}, func(r api.Ring, _ int) (x api.Ring, err api.Errno) {
		x, place, err = openAsked(r, generation)
		return x, err
	})
	if at != place {
		t.Fatalf("Open(%v, %d) tells %d, asked is %d", r, generation, at, place)
	}
}

// uses tells whether Use answers what is asked.
func uses(t *testing.T, r api.Ring, n int) {
	t.Helper()
	answers(t, "Use", r, n, ring.Use, useAsked)
}

// seals tells whether Seal answers what is asked.
func seals(t *testing.T, r api.Ring) {
	t.Helper()
	seal := func(r api.Ring, _ int) (api.Ring, api.Errno) { return ring.Seal(r) }
	answers(t, "Seal", r, 0, seal, sealAsked)
}

// frees tells whether Free answers what is asked.
func frees(t *testing.T, r api.Ring, i int) {
	t.Helper()
	answers(t, "Free", r, i, ring.Free, freeAsked)
}

// turns tells whether all functions that turn a ring answer what is asked, at the edges of their arguments.
func turns(t *testing.T, r api.Ring) {
	t.Helper()
	f := factsOf(r)
	for _, g := range []uint64{0, 1, 2, f.greatest - 1, f.greatest, f.greatest + 1, f.greatest + 2, top} {
		opens(t, r, g)
	}
	for _, n := range []int{-1, 0, 1, f.left - 1, f.left, f.left + 1, r.Sectors} {
		uses(t, r, n)
	}
	seals(t, r)
	for i := -1; i <= len(r.Segs); i++ {
		frees(t, r, i)
	}
}

// P8.4: numbers that are far off.
func TestTurnFar(t *testing.T) {
	for _, r := range []api.Ring{
		ringOf(24, sealed(3, 2), open(4, 1), free(), sealed(2, 24)),
		ringOf(24, sealed(3, 2), open(4, 24), free(), sealed(2, 24)),
		ringOf(24, sealed(3, 2), sealed(4, 1), free(), sealed(2, 24)),
		ringOf(24, make([]api.Seg, 4)...),
	} {
		for _, n := range []int{math.MinInt, -1 << 32, -23, -2, 22, 23, 24, 1 << 32, 1<<32 + 1, math.MaxInt - 1, math.MaxInt} {
			uses(t, r, n)
			frees(t, r, n)
		}
		for _, g := range []uint64{1 << 31, 1 << 32, 1 << 63, top - 1} {
			opens(t, r, g)
		}
	}
}

// P8.4: Open by hand: the latest's Generation, those beside it, 0, and which error goes ahead of which.
func TestOpen(t *testing.T) {
	for _, c := range []struct {
		r          api.Ring
		generation uint64
		at         int
		err        api.Errno
	}{
		{ringOf(24, free(), free(), free(), free()), 0, 0, api.ErrArg},
		{ringOf(24, free(), free(), free(), free()), 1, 0, api.OK},
		{ringOf(24, free(), free(), free(), free()), top, 0, api.OK},
		{ringOf(24, free(), sealed(7, 1), free(), free()), 6, 0, api.ErrArg},
		{ringOf(24, free(), sealed(7, 1), free(), free()), 7, 0, api.ErrArg},
		{ringOf(24, free(), sealed(7, 1), free(), free()), 8, 2, api.OK},
		{ringOf(24, free(), free(), free(), sealed(7, 1)), 8, 0, api.OK},
		{ringOf(24, free(), free(), free(), sealed(top, 1)), top, 0, api.ErrArg},
		{ringOf(24, sealed(5, 1), sealed(6, 1), sealed(7, 1), sealed(8, 1)), 9, 0, api.ErrFull},
		// ErrArg goes ahead of ErrFull, ErrState ahead of both.
		{ringOf(24, sealed(5, 1), sealed(6, 1), sealed(7, 1), sealed(8, 1)), 8, 0, api.ErrArg},
		{ringOf(24, sealed(5, 1), sealed(6, 1), sealed(7, 1), open(8, 1)), 9, 0, api.ErrState},
		{ringOf(24, sealed(5, 1), sealed(6, 1), sealed(7, 1), open(8, 1)), 0, 0, api.ErrState},
		{ringOf(24, free(), free(), free(), open(8, 1)), 8, 0, api.ErrState},
	} {
		r, at, err := ring.Open(c.r, c.generation)
		if at != c.at || err != c.err {
			t.Errorf("Open(%v, %d) is %d, error %d", c.r, c.generation, at, err)
		}
		if err == api.OK && r.Segs[at] != open(c.generation, 1) {
			t.Errorf("Open(%v, %d): the open one is %v", c.r, c.generation, r.Segs[at])
		}
		opens(t, c.r, c.generation)
	}
}

// P8.4: Use by hand: nothing, one, all that is left and one more, and which error goes ahead of which.
func TestUse(t *testing.T) {
	for _, c := range []struct {
		s    api.Seg
		n    int
		used int
		err  api.Errno
	}{
		{open(5, 1), 0, 1, api.OK},
		{open(5, 1), 1, 2, api.OK},
		{open(5, 1), 22, 23, api.OK},
		{open(5, 1), 23, 24, api.OK},
		{open(5, 1), 24, 0, api.ErrFull},
		{open(5, 24), 0, 24, api.OK},
		{open(5, 24), 1, 0, api.ErrFull},
		{open(5, 24), -1, 0, api.ErrArg},
		{open(5, 2), -1, 0, api.ErrArg},
		{sealed(5, 1), 1, 0, api.ErrState},
		{sealed(5, 1), -1, 0, api.ErrState},
		{sealed(5, 1), 24, 0, api.ErrState},
		{free(), 0, 0, api.ErrState},
	} {
		r := ringOf(24, sealed(3, 9), free(), c.s, sealed(4, 24))
		got, err := ring.Use(r, c.n)
		if err != c.err || err == api.OK && got.Segs[2] != open(5, c.used) {
			t.Errorf("Use of %d more of %v is %v, error %d", c.n, c.s, got, err)
		}
		uses(t, r, c.n)
	}
}

// P8.4: Free by hand: there is no such segment, an open one, a free one, a sealed one of whatever Generation.
func TestFree(t *testing.T) {
	r := ringOf(24, sealed(3, 9), open(5, 2), free(), sealed(4, 24))
	for i, want := range map[int]api.Errno{-1: api.ErrArg, 0: api.OK, 1: api.ErrState, 2: api.ErrState, 3: api.OK, 4: api.ErrArg} {
		got, err := ring.Free(r, i)
		if err != want || err == api.OK && got.Segs[i] != free() {
			t.Errorf("Free(%d) is %v, error %d", i, got, err)
		}
		frees(t, r, i)
	}
}

// P8.4: each function on each ring that may not be: ErrRing goes ahead of all else, and there is nothing beside it.
func TestTurnWrong(t *testing.T) {
	for name, r := range wrongs() {
		turns(t, r)
		for _, n := range []int{-1, 0, 1, 100} {
			a, at, err := ring.Open(r, uint64(max(n, 0)))
			b, other := ring.Use(r, n)
			c, third := ring.Seal(r)
			d, last := ring.Free(r, n)
			if err != 180 || other != 180 || third != 180 || last != 180 || at != 0 {
				t.Errorf("%s: errors %d, %d, %d, %d", name, err, other, third, last)
			}
			for _, x := range []api.Ring{a, b, c, d} {
				if x.Sectors != 0 || len(x.Segs) != 0 {
					t.Errorf("%s: beside an error stands %v", name, x)
				}
			}
		}
	}
}

// P8.4, R3: a ring that was answered earlier stays, whatever is made of it since.
func TestTurnValue(t *testing.T) {
	r := made(t, 4, 24)
	rows := []api.Ring{r}
	then := []api.Ring{copied(r)}
	keep := func(x api.Ring, err api.Errno) {
		t.Helper()
		if err != api.OK {
			t.Fatalf("error %d", err)
		}
		r = x
		rows, then = append(rows, x), append(then, copied(x))
	}
	for g := range 8 {
		if ring.Frees(r) == 0 {
			at, _ := ring.Oldest(r)
			keep(ring.Free(r, at))
		}
		x, _, err := ring.Open(r, uint64(g+1))
		keep(x, err)
		keep(ring.Use(r, g))
		keep(ring.Use(r, 1))
		keep(ring.Seal(r))
	}
	for i := range rows {
		if !alike(rows[i], then[i]) {
			t.Errorf("ring %d was %v and is %v", i, then[i], rows[i])
		}
	}
	for i := range rows {
		rows[i].Segs[i%4] = room
		for k := i + 1; k < len(rows); k++ {
			if !alike(rows[k], then[k]) {
				t.Fatalf("ring %d shares memory with ring %d", k, i)
			}
		}
	}
}
