package super_test

import (
	"math"
	"testing"

	"icehouse/api"
	"icehouse/super"
)

// sets tells whether Set answers that.
func sets(t *testing.T, s *super.Store, x api.Super, want api.Errno) {
	t.Helper()
	if err := s.Set(x); err != want {
		t.Fatalf("Set(%v) is error %d; asked is %d", x, err, want)
	}
}

// knows tells whether Get answers that.
func knows(t *testing.T, s *super.Store, want api.Super) {
	t.Helper()
	if got := s.Get(); got != want {
		t.Fatalf("known is %v; asked is %v", got, want)
	}
}

// P7.3: the examples.
func TestSetExamples(t *testing.T) {
	d, s := formatted(t, 4, 24)
	knows(t, s, api.Super{Segments: 4, Sectors: 24})
	sets(t, s, api.Super{Segments: 4, Sectors: 24, Generation: 3}, api.OK)
	s = opened(t, d, api.Super{Segments: 4, Sectors: 24, Generation: 3})
	sets(t, s, api.Super{Segments: 4, Sectors: 24, Generation: 2}, api.ErrSuper)
	sets(t, s, api.Super{Segments: 5, Sectors: 24, Generation: 3}, api.ErrArg)
	knows(t, s, api.Super{Segments: 4, Sectors: 24, Generation: 3})
}

// P7.3: each Set writes the superblock of the next turn to the sector of that turn, and syncs.
func TestSetWrites(t *testing.T) {
	d, s := formatted(t, 4, 24)
	last := plain(s.Get(), 0)
	for turn := uint64(1); turn <= 20; turn++ {
		x := api.Super{Segments: 4, Sectors: 24, Generation: 5 * turn, Retired: 3 * turn, Reserved: 1024 * turn, Flush: turn / 2}
		before := d.Ops()
		sets(t, s, x, api.OK)
		knows(t, s, x)
		if d.Ops()-before != 2 || d.Pending() != nil {
			t.Fatalf("Set did %d operations, pending are %v", d.Ops()-before, d.Pending())
		}
		holds(t, d, int(turn%2), plain(x, turn))
		holds(t, d, int((turn+1)%2), last)
		last = plain(x, turn)
		opened(t, d, x)
		if turn%5 == 0 {
			s = opened(t, d, x)
		}
	}
	for i := 2; i < 98; i++ {
		holds(t, d, i, api.Block{})
	}
}

// P7.3: a Set that changes nothing is a turn, too.
func TestSetSame(t *testing.T) {
	d, s := formatted(t, 16, 64)
	x := api.Super{Segments: 16, Sectors: 64, Generation: top, Retired: top, Reserved: top, Flush: top}
	sets(t, s, s.Get(), api.OK)
	holds(t, d, 1, plain(api.Super{Segments: 16, Sectors: 64}, 1))
	sets(t, s, x, api.OK)
	sets(t, s, x, api.OK)
	holds(t, d, 0, plain(x, 2))
	holds(t, d, 1, plain(x, 3))
	knows(t, s, x)
}

// P7.3: nothing goes back: each number one less than what is known, alone, and with others that go on.
func TestSetBack(t *testing.T) {
	known := api.Super{Segments: 4, Sectors: 24, Generation: 50, Retired: 40, Reserved: 1024, Flush: 700}
	for _, less := range []func(x *api.Super){
		func(x *api.Super) { x.Generation-- },
		func(x *api.Super) { x.Retired-- },
		func(x *api.Super) { x.Reserved-- },
		func(x *api.Super) { x.Flush-- },
		func(x *api.Super) { x.Generation = 40 },
		func(x *api.Super) { x.Retired = 0 },
		func(x *api.Super) { x.Reserved = 0 },
		func(x *api.Super) { x.Flush = 0 },
	} {
		for _, more := range []uint64{0, 1, 1 << 40} {
			d, s := formatted(t, 4, 24)
			sets(t, s, known, api.OK)
			x := known
			x.Generation += more
			x.Retired += min(more, 1)
			x.Reserved += more
			x.Flush += more
			same := x
			less(&x)
			if !mayBe(x) {
				continue
			}
			before := d.Ops()
			if x.Generation >= 50 && x.Retired >= 40 && x.Reserved >= 1024 && x.Flush >= 700 {
				sets(t, s, x, api.OK)
				continue
			}
			sets(t, s, x, api.ErrSuper)
			knows(t, s, known)
			if d.Ops() != before {
				t.Fatalf("a Set that was refused did operations")
			}
			sets(t, s, same, api.OK)
			holds(t, d, 0, plain(same, 2))
		}
	}
}

// P7.3: each number goes on alone, by one and to the greatest.
func TestSetOn(t *testing.T) {
	for _, on := range []func(x *api.Super, n uint64){
		func(x *api.Super, n uint64) { x.Generation += n },
		func(x *api.Super, n uint64) { x.Retired += min(n, 10) },
		func(x *api.Super, n uint64) { x.Reserved += n },
		func(x *api.Super, n uint64) { x.Flush += n },
	} {
		for _, n := range []uint64{1, 2, top - 50} {
			d, s := formatted(t, 4, 24)
			x := api.Super{Segments: 4, Sectors: 24, Generation: 50, Retired: 40, Reserved: 50, Flush: 50}
			sets(t, s, x, api.OK)
			on(&x, n)
			sets(t, s, x, api.OK)
			knows(t, s, x)
			opened(t, d, x)
		}
	}
}

// P7.3: other Segments or Sectors, and what may not be, are ErrArg, ahead of what would go back and of the disk's error.
func TestSetArguments(t *testing.T) {
	known := api.Super{Segments: 5, Sectors: 30, Generation: 50, Retired: 40, Reserved: 1024, Flush: 700}
	for _, c := range []struct {
		change func(x *api.Super)
		want   api.Errno
	}{
		{func(x *api.Super) { x.Segments = 4 }, api.ErrArg},
		{func(x *api.Super) { x.Segments = 6 }, api.ErrArg},
		{func(x *api.Super) { x.Segments = -5 }, api.ErrArg},
		{func(x *api.Super) { x.Segments = 65536 + 5 }, api.ErrArg},
		{func(x *api.Super) { x.Segments = math.MaxInt }, api.ErrArg},
		{func(x *api.Super) { x.Sectors = 29 }, api.ErrArg},
		{func(x *api.Super) { x.Sectors = 31 }, api.ErrArg},
		{func(x *api.Super) { x.Sectors = 0 }, api.ErrArg},
		{func(x *api.Super) { x.Sectors = 65536 + 30 }, api.ErrArg},
		{func(x *api.Super) { x.Sectors = math.MinInt }, api.ErrArg},
		{func(x *api.Super) { *x = api.Super{} }, api.ErrArg},
		{func(x *api.Super) { x.Retired = 51 }, api.ErrArg},
		{func(x *api.Super) { x.Retired = top }, api.ErrArg},
		{func(x *api.Super) { x.Generation = 39 }, api.ErrArg},
		{func(x *api.Super) { x.Generation = 0 }, api.ErrArg},
		{func(x *api.Super) { x.Retired, x.Flush = 51, 0 }, api.ErrArg},
		{func(x *api.Super) { x.Sectors, x.Flush = 31, 0 }, api.ErrArg},
		{func(x *api.Super) { x.Generation = 49 }, api.ErrSuper},
		{func(x *api.Super) {}, api.ErrDead},
		{func(x *api.Super) { x.Retired = 50 }, api.ErrDead},
	} {
		d, s := formatted(t, 5, 30)
		sets(t, s, known, api.OK)
		x := known
		c.change(&x)
		before := d.Ops()
		if c.want != api.ErrDead {
			sets(t, s, x, c.want)
		}
		d.Arm(0)
		d.Sync()
		sets(t, s, x, c.want)
		knows(t, s, known)
		if d.Ops() != before {
			t.Fatalf("a Set that was refused did operations")
		}
	}
}

// P7.3: the turn goes on from the one that counts, wherever it stands.
func TestSetBehindOpen(t *testing.T) {
	x := api.Super{Segments: 4, Sectors: 24, Generation: 1}
	y := api.Super{Segments: 4, Sectors: 24, Generation: 2}
	z := api.Super{Segments: 4, Sectors: 24, Generation: 3}
	for _, c := range []struct{ zero, one, turn uint64 }{
		{0, 1, 2}, {2, 1, 3}, {7, 7, 8}, {8, 8, 9}, {7, 6, 8}, {6, 8, 9}, {1 << 40, 1<<40 + 1, 1<<40 + 2}, {top - 1, 3, top}, {top - 1, top - 2, top},
	} {
		blocks := []api.Block{plain(x, c.zero), plain(y, c.one)}
		d := holding(t, 98, blocks...)
		s, _ := super.Open(d)
		sets(t, s, z, api.OK)
		holds(t, d, int(c.turn%2), plain(z, c.turn))
		holds(t, d, int(1-c.turn%2), blocks[1-c.turn%2])
		opened(t, d, z)
	}
}

// P7.3: Get of a Store tells copies.
func TestGetCopy(t *testing.T) {
	_, s := formatted(t, 4, 24)
	x := s.Get()
	x.Generation, x.Segments = 9, 9
	knows(t, s, api.Super{Segments: 4, Sectors: 24})
	y := api.Super{Segments: 4, Sectors: 24, Generation: 2}
	sets(t, s, y, api.OK)
	y.Generation = 7
	knows(t, s, api.Super{Segments: 4, Sectors: 24, Generation: 2})
}

// P7.3, P7.4: of a nil Store.
func TestNilStore(t *testing.T) {
	var s *super.Store
	knows(t, s, api.Super{})
	sets(t, s, api.Super{Segments: 4, Sectors: 24}, api.ErrNil)
	sets(t, s, api.Super{}, api.ErrNil)
	if s.Disk() != nil {
		t.Errorf("a nil Store has a disk")
	}
	for _, i := range []int{-1, 0, 1} {
		if n, err := s.Base(i); n != 0 || err != api.ErrNil {
			t.Errorf("Base(%d) of nil is %d, error %d", i, n, err)
		}
	}
}

// P7.4: the disk is the one that was handed in.
func TestDisk(t *testing.T) {
	d, s := formatted(t, 4, 24)
	if s.Disk() != d {
		t.Errorf("Format's Store has another disk")
	}
	s.Disk().Write(5, api.Block{7})
	holds(t, d, 5, api.Block{7})
	if opened(t, d, s.Get()).Disk() != d {
		t.Errorf("Open's Store has another disk")
	}
}

// P7.4: Base of all segments, and of the numbers beside them.
func TestBase(t *testing.T) {
	for _, segments := range []int{4, 5, 16} {
		for _, sectors := range []int{24, 37, 64} {
			d, s := formatted(t, segments, sectors)
			at := 2
			for i := range segments {
				if n, err := s.Base(i); n != at || err != api.OK {
					t.Errorf("Base(%d) of %d with %d sectors is %d, error %d", i, segments, sectors, n, err)
				}
				at += sectors
			}
			if at != d.Len() {
				t.Fatalf("the segments end at %d", at)
			}
			for _, i := range []int{math.MinInt, -1 << 32, -2, -1, segments, segments + 1, 1 << 32, math.MaxInt} {
				if n, err := s.Base(i); n != 0 || err != api.ErrArg {
					t.Errorf("Base(%d) of %d is %d, error %d", i, segments, n, err)
				}
			}
		}
	}
}

// P7.4: the examples.
func TestBaseExamples(t *testing.T) {
	_, s := formatted(t, 4, 24)
	if n, err := s.Base(1); n != 26 || err != api.OK {
		t.Errorf("Base(1) is %d, error %d", n, err)
	}
	if n, err := s.Base(4); n != 0 || err != api.ErrArg {
		t.Errorf("Base(4) is %d, error %d", n, err)
	}
}
