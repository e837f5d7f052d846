package ring_test

import (
	"slices"
	"testing"

	"icehouse/api"
	"icehouse/ring"
)

// number tells whether a call answered the number that is asked, or where there is none (-1) that error.
func number(t *testing.T, r api.Ring, name string, got int, err api.Errno, want int, none api.Errno) {
	t.Helper()
	if want < 0 && (got != 0 || err != none) {
		t.Fatalf("%s(%v) is %d, error %d; asked is error %d", name, r, got, err, none)
	}
	if want >= 0 && (got != want || err != 0) {
		t.Fatalf("%s(%v) is %d, error %d; asked is %d", name, r, got, err, want)
	}
}

// told tells whether all that is told of a ring is as the words say, and the ring stays.
func told(t *testing.T, r api.Ring) {
	t.Helper()
	was, f := copied(r), factsOf(r)
	noOpen, noNext := api.Errno(4), api.Errno(6)
	if !mayBe(r) {
		f = facts{opened: -1, next: -1, oldest: -1}
		noOpen, noNext = 180, 180
	}
	at, err := ring.Opened(r)
	number(t, r, "Opened", at, err, f.opened, noOpen)
	at, err = ring.Next(r)
	number(t, r, "Next", at, err, f.next, noNext)
	at, err = ring.Oldest(r)
	number(t, r, "Oldest", at, err, f.oldest, noOpen)
	if n := ring.Frees(r); n != f.frees {
		t.Fatalf("Frees(%v) is %d, asked is %d", r, n, f.frees)
	}
	if n := ring.Left(r); n != f.left {
		t.Fatalf("Left(%v) is %d, asked is %d", r, n, f.left)
	}
	ordered(t, r, f.order)
	stays(t, r, was)
}

// ordered tells whether Order tells just the segments of those numbers.
func ordered(t *testing.T, r api.Ring, want []int) {
	t.Helper()
	var got []int
	for i, s := range ring.Order(r) {
		if i < 0 || i >= len(r.Segs) || s != r.Segs[i] {
			t.Fatalf("Order(%v) tells %d, %v", r, i, s)
		}
		got = append(got, i)
	}
	if !slices.Equal(got, want) {
		t.Fatalf("Order(%v) tells %v, asked is %v", r, got, want)
	}
}

// four tells all rings of four segments of 24 sectors that are made of a few segments, each with each; most of them may not be.
func four(tell func(r api.Ring)) {
	few := []api.Seg{
		free(), sealed(1, 1), sealed(2, 24), sealed(3, 7), sealed(top, 2),
		open(2, 1), open(3, 23), open(4, 24), open(top, 1),
		sealed(4, 25), open(4, 0), {Generation: 1}, {State: 3, Generation: 9, Used: 9},
	}
	for _, a := range few {
		for _, b := range few {
			for _, c := range few {
				for _, d := range few {
					tell(ringOf(24, a, b, c, d))
				}
			}
		}
	}
}

// P8.1 to P8.4: all functions on all those rings, with the arguments of all edges.
func TestFour(t *testing.T) {
	right := 0
	four(func(r api.Ring) {
		if mayBe(r) {
			right++
		}
		checks(t, r)
		told(t, r)
		turns(t, r)
	})
	if right < 500 {
		t.Errorf("only %d of them may be", right)
	}
}

// P8.2: the edges that the chapter names, each told by hand.
func TestTold(t *testing.T) {
	for _, c := range []struct {
		r                    api.Ring
		opened, next, oldest int
		frees, left          int
		order                []int
	}{
		{ringOf(24, free(), free(), free(), free()), -1, 0, -1, 4, 0, nil},
		{ringOf(24, free(), free(), open(1, 1), free()), 2, 3, -1, 3, 23, []int{2}},
		{ringOf(24, free(), free(), free(), open(top, 24)), 3, 0, -1, 3, 0, []int{3}},
		{ringOf(24, free(), free(), free(), sealed(1, 24)), -1, 0, 3, 3, 0, []int{3}},
		{ringOf(24, sealed(9, 1), free(), free(), sealed(8, 24)), -1, 1, 3, 2, 0, []int{3, 0}},
		{ringOf(24, free(), sealed(9, 1), free(), sealed(8, 24)), -1, 2, 3, 2, 0, []int{3, 1}},
		{ringOf(24, free(), sealed(8, 1), free(), sealed(9, 24)), -1, 0, 1, 2, 0, []int{1, 3}},
		{ringOf(24, free(), sealed(8, 1), free(), open(9, 2)), 3, 0, 1, 2, 22, []int{1, 3}},
		{ringOf(24, sealed(4, 1), sealed(1, 1), sealed(2, 1), sealed(3, 1)), -1, -1, 1, 0, 0, []int{1, 2, 3, 0}},
		{ringOf(64, open(4, 1), sealed(1, 1), sealed(2, 1), sealed(3, 1)), 0, -1, 1, 0, 63, []int{1, 2, 3, 0}},
		{ringOf(64, sealed(3, 1), open(1<<63, 60), free(), sealed(2, 1), sealed(1, 64)), 1, 2, 4, 1, 4, []int{4, 3, 0, 1}},
		{ringOf(64, free(), open(1<<63, 60), sealed(1<<62, 1), sealed(5, 1)), 1, 0, 3, 1, 4, []int{3, 2, 1}},
	} {
		at, err := ring.Opened(c.r)
		number(t, c.r, "Opened", at, err, c.opened, api.ErrNone)
		at, err = ring.Next(c.r)
		number(t, c.r, "Next", at, err, c.next, api.ErrFull)
		at, err = ring.Oldest(c.r)
		number(t, c.r, "Oldest", at, err, c.oldest, api.ErrNone)
		if n, k := ring.Frees(c.r), ring.Left(c.r); n != c.frees || k != c.left {
			t.Errorf("%v: Frees %d, Left %d", c.r, n, k)
		}
		ordered(t, c.r, c.order)
		told(t, c.r)
	}
}

// P8.2: the latest at each place, and one free one at each other place, of rings of all numbers of segments.
func TestNextRound(t *testing.T) {
	for n := 4; n <= 16; n++ {
		for latest := range n {
			for gap := range n {
				for other := range n {
					r := ringOf(64, make([]api.Seg, n)...)
					for i := range n {
						r.Segs[(latest+1+i)%n] = sealed(uint64(i+1), 1)
					}
					if gap == latest || other == latest {
						continue
					}
					r.Segs[gap], r.Segs[other] = free(), free()
					told(t, r)
					r.Segs[latest].State = 1
					told(t, r)
				}
			}
		}
	}
}

// P8.3: Generations that rise, fall, and go up and down, from the least to the greatest.
func TestOrderMixed(t *testing.T) {
	for n := 4; n <= 16; n++ {
		for step := 1; step < 17; step += 2 {
			r := ringOf(24, make([]api.Seg, n)...)
			for i := range n {
				r.Segs[i] = sealed(uint64((i*step)%17+1)<<59, i+1)
			}
			if !mayBe(r) {
				t.Fatalf("%v may not be", r)
			}
			told(t, r)
			r.Segs[n/2] = free()
			told(t, r)
		}
	}
}

// P8.3, R6: Order may be left at each place, and gone through again, within itself too.
func TestOrderLeft(t *testing.T) {
	r := ringOf(24, sealed(3, 1), open(9, 5), free(), sealed(1, 2), sealed(2, 24))
	order := ring.Order(r)
	all := []int{3, 4, 0, 1}
	for n := range 5 {
		var got []int
		for i := range order {
			if len(got) == n {
				break
			}
			got = append(got, i)
		}
		if !slices.Equal(got, all[:n]) {
			t.Errorf("left behind %d: %v", n, got)
		}
	}
	for k := range 3 {
		calls := 0
		order(func(int, api.Seg) bool { calls++; return calls <= k })
		if calls != k+1 {
			t.Errorf("left behind %d: %d are told", k, calls)
		}
	}
	var pairs []int
	for i := range order {
		for k := range order {
			pairs = append(pairs, i, k)
		}
	}
	if len(pairs) != 32 || pairs[0] != 3 || pairs[31] != 1 {
		t.Errorf("within itself: %v", pairs)
	}
}

// P8.3, R3: Order tells the ring that was handed in, whatever is done with that ring's list since.
func TestOrderKeeps(t *testing.T) {
	r := ringOf(24, sealed(3, 1), open(9, 5), free(), sealed(1, 2))
	order := ring.Order(r)
	r.Segs[0] = sealed(4, 9)
	r.Segs[2] = sealed(2, 1)
	r.Segs[3] = free()
	for range 2 {
		var got []api.Seg
		for i, s := range order {
			got = append(got, s)
			r.Segs[i] = free()
		}
		if !slices.Equal(got, []api.Seg{sealed(1, 2), sealed(3, 1), open(9, 5)}) {
			t.Errorf("Order tells %v", got)
		}
	}
}

// P8.2, P8.3: of a ring that may not be nothing is told.
func TestToldWrong(t *testing.T) {
	for name, r := range wrongs() {
		told(t, r)
		for i, s := range ring.Order(r) {
			t.Errorf("%s: Order tells %d, %v", name, i, s)
		}
		if _, err := ring.Opened(r); err != 180 {
			t.Errorf("%s: Opened is %d", name, err)
		}
		if ring.Frees(r) != 0 || ring.Left(r) != 0 {
			t.Errorf("%s: Frees %d, Left %d", name, ring.Frees(r), ring.Left(r))
		}
	}
}
