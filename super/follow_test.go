package super_test

import (
	"testing"

	"icehouse/api"
	"icehouse/disk"
	"icehouse/super"
)

// choices tells each choice of what lives on of a disk's pending writes, on a copy of its own.
func choices(d *disk.Disk, tell func(c *disk.Disk)) {
	n := len(d.Pending())
	for mask := range 1 << n {
		keep := make([]bool, n)
		for i := range keep {
			keep[i] = mask>>i&1 != 0
		}
		c := d.Copy()
		c.Crash(keep)
		tell(c)
	}
}

// cutAt makes the operation behind n more of a disk fail, or the power go with it, and tells the error that is met then.
func cutAt(d *disk.Disk, n int, fails bool) api.Errno {
	if fails {
		d.Fail(n)
		return api.ErrIo
	}
	d.Arm(n)
	return api.ErrDead
}

// stepped is what is known at a step of a row of Sets.
func stepped(i int) api.Super {
	n := uint64(i)
	return api.Super{Segments: 4, Sectors: 24, Generation: 3 * n, Retired: 2 * n, Reserved: 1024 * n, Flush: n * n}
}

// P7.5, P7.3: a Set is cut at each operation, by ErrIo or as the power goes, with each choice of what lives on: Get tells what was known, Open that or what was to be, and goes on from there.
func TestSetCut(t *testing.T) {
	for i := range 6 {
		for n := range 3 {
			for _, fails := range []bool{true, false} {
				d, s := formatted(t, 4, 24)
				for k := 1; k <= i; k++ {
					sets(t, s, stepped(k), api.OK)
				}
				want := cutAt(d, n, fails)
				if n == 2 {
					sets(t, s, stepped(i+1), api.OK)
					knows(t, s, stepped(i+1))
					choices(d, func(c *disk.Disk) { opened(t, c, stepped(i+1)) })
					continue
				}
				sets(t, s, stepped(i+1), want)
				knows(t, s, stepped(i))
				if len(d.Pending()) != n {
					t.Fatalf("cut at %d: pending are %v", n, d.Pending())
				}
				choices(d, func(c *disk.Disk) { goesOn(t, c, i, n) })
			}
		}
	}
}

// goesOn tells whether a disk whose Set of step i + 1 was cut knows that step or the one ahead of it, as the sectors say, and takes further Sets.
func goesOn(t *testing.T, d *disk.Disk, i, written int) {
	t.Helper()
	s, err := super.Open(d)
	if err != api.OK {
		t.Fatalf("Open behind a cut: error %d", err)
	}
	x, now := s.Get(), i
	if b, _ := d.Read((i + 1) % 2); b == plain(stepped(i+1), uint64(i+1)) {
		now = i + 1
	}
	if x != stepped(now) || now > i && written == 0 {
		t.Fatalf("behind a cut of step %d known is %v", i+1, x)
	}
	sets(t, s, stepped(i+2), api.OK)
	holds(t, d, (now+1)%2, plain(stepped(i+2), uint64(now+1)))
	d.Crash(nil)
	opened(t, d, stepped(i+2))
}

// P7.3, P7.5: behind a Set that failed the same Store goes on with the same turn; what it tells with OK is safe.
func TestSetAgain(t *testing.T) {
	for n := range 2 {
		d, s := formatted(t, 4, 24)
		sets(t, s, stepped(1), api.OK)
		d.Fail(n)
		sets(t, s, stepped(3), api.ErrIo)
		knows(t, s, stepped(1))
		sets(t, s, stepped(2), api.OK)
		knows(t, s, stepped(2))
		holds(t, d, 0, plain(stepped(2), 2))
		holds(t, d, 1, plain(stepped(1), 1))
		choices(d, func(c *disk.Disk) { opened(t, c, stepped(2)) })
	}
}

// P7.3: a disk without power answers ErrDead, and what is known stays, until the power has come again.
func TestSetDead(t *testing.T) {
	d, s := formatted(t, 4, 24)
	d.Arm(0)
	d.Sync()
	sets(t, s, stepped(1), api.ErrDead)
	sets(t, s, stepped(1), api.ErrDead)
	knows(t, s, stepped(0))
	if n, err := s.Base(1); n != 26 || err != api.OK {
		t.Errorf("Base(1) of a dead disk is %d, error %d", n, err)
	}
	d.Crash(nil)
	sets(t, s, stepped(1), api.OK)
	knows(t, s, stepped(1))
	opened(t, d, stepped(1))
}

// P7.5: writes of others that are pending beside the superblock's do not matter, and are safe behind a Set.
func TestSetBesideOthers(t *testing.T) {
	for n := range 3 {
		d, s := formatted(t, 4, 24)
		sets(t, s, stepped(1), api.OK)
		d.Write(2, api.Block{1})
		d.Write(97, api.Block{2})
		d.Arm(n)
		if err := s.Set(stepped(2)); err == api.OK {
			d.Crash(nil)
			holds(t, d, 2, api.Block{1})
			holds(t, d, 97, api.Block{2})
			opened(t, d, stepped(2))
			continue
		}
		choices(d, func(c *disk.Disk) {
			got, err := super.Open(c)
			if err != api.OK || got.Get() != stepped(1) && got.Get() != stepped(2) {
				t.Fatalf("Open knows %v, error %d", got.Get(), err)
			}
		})
	}
}

// P7.5: rows of Sets on one disk, each cut or not, each behind a crash of whatever choice: what is known never goes back behind what was told with OK.
func TestSetRows(t *testing.T) {
	var row func(d *disk.Disk, step, sure int)
	row = func(d *disk.Disk, step, sure int) {
		s, err := super.Open(d)
		if err != api.OK {
			t.Fatalf("Open: error %d", err)
		}
		now := int(s.Get().Generation / 3)
		if now < sure || s.Get() != stepped(now) {
			t.Fatalf("known is %v, told was step %d", s.Get(), sure)
		}
		if step > 5 {
			return
		}
		for n := range 3 {
			c := d.Copy()
			c.Arm(n)
			again, _ := super.Open(c)
			known := now
			if again.Set(stepped(step)) == api.OK {
				known = step
			}
			choices(c, func(e *disk.Disk) { row(e, step+1, known) })
		}
	}
	d, _ := formatted(t, 4, 24)
	row(d, 1, 0)
}
