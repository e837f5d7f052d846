package super_test

import (
	"slices"
	"testing"

	"icehouse/api"
	"icehouse/disk"
	"icehouse/super"
)

// made is a new disk.
func made(t *testing.T, sectors int) *disk.Disk {
	t.Helper()
	d, err := disk.New(sectors)
	if err != api.OK {
		t.Fatalf("New(%d): error %d", sectors, err)
	}
	return d
}

// holding is a disk whose sectors 0 and 1 safely hold those blocks.
func holding(t *testing.T, sectors int, blocks ...api.Block) *disk.Disk {
	t.Helper()
	d := made(t, sectors)
	for i, b := range blocks {
		if err := d.Write(i, b); err != api.OK {
			t.Fatalf("Write(%d): error %d", i, err)
		}
	}
	if err := d.Sync(); err != api.OK {
		t.Fatalf("Sync: error %d", err)
	}
	return d
}

// holds tells whether a sector holds that.
func holds(t *testing.T, d *disk.Disk, i int, want api.Block) {
	t.Helper()
	if b, err := d.Read(i); b != want || err != api.OK {
		t.Fatalf("sector %d holds %v, error %d; asked is %v", i, b, err, want)
	}
}

// opened is what Open answers, which must know that.
func opened(t *testing.T, d *disk.Disk, want api.Super) *super.Store {
	t.Helper()
	s, err := super.Open(d)
	if err != api.OK || s == nil || s.Get() != want || s.Disk() != d {
		t.Fatalf("Open knows %v, error %d; asked is %v", s.Get(), err, want)
	}
	return s
}

// refused tells whether Open answers an error.
func refused(t *testing.T, d *disk.Disk, want api.Errno) {
	t.Helper()
	if s, err := super.Open(d); s != nil || err != want {
		t.Fatalf("Open is %v, error %d; asked is error %d", s, err, want)
	}
}

// formatted is a disk, and the Store that Format made.
func formatted(t *testing.T, segments, sectors int) (*disk.Disk, *super.Store) {
	t.Helper()
	d := made(t, 2+segments*sectors)
	s, err := super.Format(d, segments, sectors)
	if err != api.OK || s == nil {
		t.Fatalf("Format: error %d", err)
	}
	return d, s
}

// P7.2: the examples.
func TestFormatExamples(t *testing.T) {
	d := made(t, 98)
	s, err := super.Format(d, 4, 24)
	if err != api.OK || s.Get() != (api.Super{Segments: 4, Sectors: 24}) {
		t.Fatalf("Format: %v, error %d", s.Get(), err)
	}
	if s, err := super.Format(d, 3, 24); s != nil || err != api.ErrArg {
		t.Errorf("Format(d, 3, 24): error %d", err)
	}
	if s, err := super.Format(d, 4, 25); s != nil || err != api.ErrFormat {
		t.Errorf("Format(d, 4, 25): error %d", err)
	}
	refused(t, made(t, 98), api.ErrFormat)
	opened(t, d, api.Super{Segments: 4, Sectors: 24})
}

// P7.2: what Format writes: turn 0 to sector 0, noughts to sector 1, safely, and nothing else.
func TestFormatWrites(t *testing.T) {
	junk := api.Block{1, 2, 3}
	d := holding(t, 200, junk, plain(api.Super{Segments: 4, Sectors: 24, Generation: 8}, 99), junk, junk)
	before := d.Ops()
	if s, err := super.Format(d, 5, 26); err != api.OK || s.Get() != (api.Super{Segments: 5, Sectors: 26}) || s.Disk() != d {
		t.Fatalf("Format: error %d", err)
	}
	if n := d.Ops() - before; n != 3 || d.Pending() != nil {
		t.Errorf("Format did %d operations, pending are %v", n, d.Pending())
	}
	d.Crash(nil)
	holds(t, d, 0, plain(api.Super{Segments: 5, Sectors: 26}, 0))
	holds(t, d, 1, api.Block{})
	holds(t, d, 2, junk)
	holds(t, d, 3, junk)
	holds(t, d, 4, api.Block{})
	opened(t, d, api.Super{Segments: 5, Sectors: 26})
}

// P7.2: a disk with just as much room as is asked for, with more, and with one sector less, of all edges of what may be.
func TestFormatRoom(t *testing.T) {
	for _, segments := range []int{4, 5, 15, 16} {
		for _, sectors := range []int{24, 25, 63, 64} {
			n := 2 + segments*sectors
			for _, more := range []int{0, 1, 500} {
				d := made(t, n+more)
				if s, err := super.Format(d, segments, sectors); err != api.OK || s.Get() != (api.Super{Segments: segments, Sectors: sectors}) {
					t.Errorf("Format(%d of %d) of %d sectors: error %d", segments, sectors, n+more, err)
				}
				opened(t, d, api.Super{Segments: segments, Sectors: sectors})
			}
			for _, small := range []int{1, 2, 3, n - 1} {
				d := made(t, small)
				if s, err := super.Format(d, segments, sectors); s != nil || err != api.ErrFormat {
					t.Errorf("Format(%d of %d) of %d sectors: error %d", segments, sectors, small, err)
				}
				if d.Ops() != 0 || d.Pending() != nil {
					t.Errorf("Format of a disk without room wrote")
				}
			}
		}
	}
}

// P7.2: Format of what may not be.
func TestFormatArguments(t *testing.T) {
	numbers := []int{-1 << 63, -24, -4, -1, 0, 1, 3, 4, 16, 17, 23, 24, 64, 65, 65536 + 4, 65536 + 24, 1<<63 - 1}
	for _, segments := range numbers {
		for _, sectors := range numbers {
			if mayBe(api.Super{Segments: segments, Sectors: sectors}) {
				continue
			}
			for _, size := range []int{1, 98, 2048} {
				d := made(t, size)
				if s, err := super.Format(d, segments, sectors); s != nil || err != api.ErrArg || d.Ops() != 0 {
					t.Errorf("Format(%d, %d): error %d, %d operations", segments, sectors, err, d.Ops())
				}
			}
		}
	}
}

// P7.2: which of several errors goes ahead.
func TestFormatErrors(t *testing.T) {
	dead := made(t, 98)
	dead.Arm(0)
	dead.Sync()
	small := made(t, 97)
	small.Fail(0)
	for _, c := range []struct {
		d                 *disk.Disk
		segments, sectors int
		want              api.Errno
	}{
		{nil, 4, 24, api.ErrNil},
		{nil, 3, 24, api.ErrNil},
		{dead, 3, 24, api.ErrArg},
		{dead, 4, 25, api.ErrFormat},
		{dead, 4, 24, api.ErrDead},
		{small, 4, 65, api.ErrArg},
		{small, 4, 24, api.ErrFormat},
	} {
		if s, err := super.Format(c.d, c.segments, c.sectors); s != nil || err != c.want {
			t.Errorf("Format(%d, %d): error %d, asked is %d", c.segments, c.sectors, err, c.want)
		}
	}
	if _, err := small.Read(0); err != api.ErrIo {
		t.Errorf("a Format that was refused asked the disk")
	}
}

// P7.2: of all pairs of sectors 0 and 1 the right one with the greater turn counts, of equal ones that in sector 0.
func TestOpenCounts(t *testing.T) {
	first := api.Super{Segments: 4, Sectors: 24, Generation: 7, Retired: 1, Reserved: 1024, Flush: 3}
	second := api.Super{Segments: 5, Sectors: 25, Generation: 6, Retired: 2, Reserved: 2048, Flush: 1}
	turns := []uint64{0, 1, 2, 3, 255, 256, 1<<63 - 1, 1 << 63, top - 1, top}
	for _, a := range turns {
		broken := plain(first, a)
		broken[20] ^= 1
		for _, b := range turns {
			spoilt := plain(second, b)
			spoilt[63] ^= 128
			want := first
			if b > a {
				want = second
			}
			opened(t, holding(t, 127, plain(first, a), plain(second, b)), want)
			opened(t, holding(t, 127, plain(first, a), spoilt), first)
			opened(t, holding(t, 127, broken, plain(second, b)), second)
			refused(t, holding(t, 127, broken, spoilt), api.ErrFormat)
		}
		opened(t, holding(t, 127, plain(first, a)), first)
		opened(t, holding(t, 127, api.Block{}, plain(second, a)), second)
		refused(t, holding(t, 127, broken), api.ErrFormat)
	}
}

// P7.2: what may not be does not count, though its hash is right and its turn greater.
func TestOpenMayNotBe(t *testing.T) {
	right := api.Super{Segments: 4, Sectors: 24, Generation: 2, Retired: 2}
	for _, x := range []api.Super{
		{Segments: 3, Sectors: 24},
		{Segments: 17, Sectors: 24},
		{Segments: 4, Sectors: 23},
		{Segments: 4, Sectors: 65},
		{Segments: 4, Sectors: 24, Generation: 2, Retired: 3},
	} {
		opened(t, holding(t, 98, plain(right, 4), plain(x, 5)), right)
		opened(t, holding(t, 98, plain(x, 6), plain(right, 5)), right)
		refused(t, holding(t, 98, plain(x, 6), plain(x, 5)), api.ErrFormat)
		refused(t, holding(t, 98, plain(x, 6)), api.ErrFormat)
	}
}

// P7.2: the one that counts must fit; the other one does not help.
func TestOpenRoom(t *testing.T) {
	small := api.Super{Segments: 4, Sectors: 24, Generation: 1}
	great := api.Super{Segments: 16, Sectors: 64, Generation: 2}
	opened(t, holding(t, 98, plain(small, 0)), small)
	opened(t, holding(t, 99, plain(small, 0)), small)
	refused(t, holding(t, 97, plain(small, 0)), api.ErrFormat)
	opened(t, holding(t, 1026, plain(small, 0), plain(great, 1)), great)
	refused(t, holding(t, 1025, plain(small, 0), plain(great, 1)), api.ErrFormat)
	opened(t, holding(t, 98, plain(small, 2), plain(great, 1)), small)
	refused(t, holding(t, 2, plain(small, 2), plain(small, 1)), api.ErrFormat)
}

// P7.2: a disk of one sector has no sector 1, and none is right on it.
func TestOpenOneSector(t *testing.T) {
	refused(t, made(t, 1), api.ErrFormat)
	refused(t, holding(t, 1, plain(api.Super{Segments: 4, Sectors: 24}, 0)), api.ErrFormat)
	failing := made(t, 1)
	failing.Fail(0)
	refused(t, failing, api.ErrIo)
	dead := made(t, 1)
	dead.Arm(0)
	dead.Sync()
	refused(t, dead, api.ErrDead)
}

// P7.2: Open reads sector 0, then 1, once each, and changes nothing.
func TestOpenReads(t *testing.T) {
	known := api.Super{Segments: 4, Sectors: 24}
	d := holding(t, 98, plain(known, 2), plain(known, 1))
	before := d.Ops()
	opened(t, d, known)
	if d.Ops()-before != 2 || d.Pending() != nil {
		t.Errorf("Open did %d operations, pending are %v", d.Ops()-before, d.Pending())
	}
	for n := range 2 {
		d.Fail(n)
		refused(t, d, api.ErrIo)
		opened(t, d, known)
	}
	d.Fail(2)
	opened(t, d, known)
	if _, err := d.Read(0); err != api.ErrIo {
		t.Errorf("Open did more than two operations")
	}
	d.Arm(0)
	opened(t, d, known)
	if err := d.Sync(); err != api.ErrDead {
		t.Errorf("Open changed how the disk is armed")
	}
	refused(t, d, api.ErrDead)
	refused(t, nil, api.ErrNil)
}

// P7.2: the disk's error goes ahead of what a disk says.
func TestOpenErrorsFirst(t *testing.T) {
	d := made(t, 98)
	for n := range 2 {
		d.Fail(n)
		refused(t, d, api.ErrIo)
	}
	refused(t, d, api.ErrFormat)
	d.Arm(0)
	d.Sync()
	refused(t, d, api.ErrDead)
}

// P7.2: Format fails at each of its operations, by ErrIo or as the power goes; behind that Open tells what the disk holds.
func TestFormatCut(t *testing.T) {
	old := api.Super{Segments: 4, Sectors: 24, Generation: 9, Retired: 3, Reserved: 1024, Flush: 2}
	fresh := api.Super{Segments: 4, Sectors: 24}
	elder := api.Super{Segments: 4, Sectors: 24, Generation: 8}
	for n := range 3 {
		for _, fails := range []bool{true, false} {
			d := holding(t, 98, plain(elder, 4), plain(old, 5))
			want := cutAt(d, n, fails)
			if s, err := super.Format(d, 4, 24); s != nil || err != want {
				t.Fatalf("Format cut at %d: error %d, asked is %d", n, err, want)
			}
			if got := d.Pending(); !slices.Equal(got, []int{0, 1}[:n]) {
				t.Fatalf("Format cut at %d: pending are %v", n, got)
			}
			for keep := range 1 << n {
				c := d.Copy()
				c.Crash([]bool{keep&1 != 0, keep&2 != 0})
				zero, one := keep&1 != 0, keep&2 != 0
				switch {
				case !one:
					opened(t, c, old)
				case zero:
					opened(t, c, fresh)
				default:
					opened(t, c, elder)
				}
			}
		}
	}
	d := holding(t, 98, plain(elder, 4), plain(old, 5))
	d.Arm(3)
	if _, err := super.Format(d, 4, 24); err != api.OK {
		t.Errorf("Format did more than three operations: error %d", err)
	}
}
