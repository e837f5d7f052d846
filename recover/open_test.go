package recover_test

import (
	"math"
	"slices"
	"testing"

	"icehouse/api"
	"icehouse/disk"
	"icehouse/recover"
	"icehouse/super"
)

// P16.2: the chapter's example, as it stands on a disk.
func TestOpenExample(t *testing.T) {
	for flush, want := range map[uint64]api.Report{0: {Segments: 2, Items: 2, Tombs: 1, Gone: 1}, 6: {Segments: 2, Items: 1, Tombs: 1, Gone: 2}, 7: {Segments: 2, Items: 1, Tombs: 1, Gone: 2}, 8: {Segments: 2, Tombs: 1, Gone: 3}} {
		x, l := example()
		x.Flush = flush
		d := crafted(t, x)
		for i, s := range l {
			if s.Generation > 0 {
				var records []api.Record
				for _, p := range s.Records {
					records = append(records, p.Record)
				}
				lay(t, d, 24, i, s.Generation, records...)
			}
		}
		if _, report := open(t, d, 8); report != want {
			t.Errorf("with Flush %d the report is %v; asked is %v", flush, report, want)
		}
	}
}

// P16.2: a disk on which several items live, and others do not; once more it is the same.
func TestOpenFull(t *testing.T) {
	d := full(t)
	for range 3 {
		s, report := open(t, d, 8)
		if report != (api.Report{Segments: 3, Items: 5, Tombs: 1, Gone: 3}) {
			t.Errorf("there is %v", report)
		}
		for key, seq := range map[string]uint64{"a": 3, "b": 0, "c": 0, "d": 9, "f": 0, "g": 4, "h": 7} {
			if x, err := s.Get([]byte(key), 0); x.Seq != seq || (err == api.OK) != (seq > 0) {
				t.Errorf("%q has %s, error %d", key, told(x), err)
			}
		}
		d.Crash(nil)
	}
}

// P16.2: a disk that is none: without a right superblock, too small for what it says, of one sector; ErrFormat.
func TestOpenFormat(t *testing.T) {
	for _, n := range []int{1, 2, 3, 97, 98, 2048} {
		none(t, empty(t, n), 8, api.ErrFormat)
	}
	b, err := super.Encode(api.Super{Segments: 4, Sectors: 24, Generation: 3}, 1)
	is(t, err, api.OK)
	for _, at := range []int{0, 1} {
		for _, n := range []int{2, 3, 50, 97, 98, 99} {
			d := empty(t, n)
			d.Write(at, b)
			if n < 98 {
				none(t, d, 8, api.ErrFormat)
				continue
			}
			open(t, d, 8)
			wrong := b
			wrong[40] ^= 1
			d.Write(at, wrong)
			none(t, d, 8, api.ErrFormat)
		}
	}
}

// P16.2: of two superblocks that which counts says what is known.
func TestOpenSuper(t *testing.T) {
	for turn := range uint64(4) {
		d := crafted(t, api.Super{Segments: 4, Sectors: 24, Generation: 5, Retired: 3}) // its turn is 6
		lay(t, d, 24, 0, 3, put(0, "a", 1).Record)
		lay(t, d, 24, 1, 4, put(0, "b", 2).Record)
		lay(t, d, 24, 2, 6, put(0, "c", 3).Record)
		b, err := super.Encode(api.Super{Segments: 4, Sectors: 24, Generation: 6, Retired: 4}, 5+turn)
		is(t, err, api.OK)
		d.Write(1, b)
		key := "c"
		if turn < 2 {
			key = "b"
		}
		s, report := open(t, d, 8)
		if _, err := s.Get([]byte(key), 0); err != api.OK || report != (api.Report{Segments: 1, Items: 1}) {
			t.Errorf("turn %d: error %d, %v", turn, err, report)
		}
	}
}

// P16.2: a disk that fails at each of Open's operations: the error, no store and zeros; nothing is changed, and once more all is found.
func TestOpenFails(t *testing.T) {
	for _, make := range []func() *disk.Disk{func() *disk.Disk { return full(t) }, func() *disk.Disk {
		d := empty(t, 2048)
		_, err := recover.Format(d, free(5, 25), 8)
		is(t, err, api.OK)
		return d
	}} {
		x, _ := scansOf(t, make())
		for n := range 2 + x.Segments*x.Sectors + 1 {
			d := make()
			held, ops := heldBy(d), d.Ops()
			d.Fail(n)
			if n == 2+x.Segments*x.Sectors {
				_, _, err := recover.Open(d, 8)
				is(t, err, api.OK)
				_, err = d.Read(0)
				is(t, err, api.ErrIo)
				continue
			}
			none(t, d, 8, api.ErrIo)
			if d.Ops() != ops+n || !sameHeld(heldBy(d), held) || len(d.Pending()) > 0 {
				t.Fatalf("cut at %d: the disk did %d operations", n, d.Ops()-ops)
			}
			open(t, d, 8)
		}
	}
}

// P16.2: which error is told: that of a sector that can't be read goes ahead of what is wrong with the superblocks, and that ahead of the scans' errors.
func TestOpenErrors(t *testing.T) {
	for n := range 3 {
		d := empty(t, 98)
		d.Fail(n)
		if n == 2 {
			none(t, d, 8, api.ErrFormat)
		}
		none(t, d, 8, api.ErrIo)
		none(t, d, 8, api.ErrFormat)
	}
	for _, d := range []*disk.Disk{dead(t, 1), dead(t, 98)} {
		none(t, d, 8, api.ErrDead)
		none(t, d, 0, api.ErrArg)
		d.Crash(nil)
		none(t, d, 8, api.ErrFormat)
	}
	d := full(t)
	d.Arm(0)
	open(t, d, 8) // reads don't bring it nearer to its end
	is(t, d.Sync(), api.ErrDead)
	none(t, d, 8, api.ErrDead)
	d.Crash(nil)
	open(t, d, 8)
}

// P16.2, P16.3: scans' generations at Retired, at what is known as Generation, and beside them, on a disk; two of one generation.
func TestOpenGenerations(t *testing.T) {
	for _, x := range knowns(4, 24) {
		edges := []uint64{x.Retired - 1, x.Retired, x.Retired + 1, x.Generation - 1, x.Generation, x.Generation + 1, 0, math.MaxUint64}
		for n := range len(edges) * len(edges) {
			d := crafted(t, x)
			for i, m := range []int{n % len(edges), n / len(edges), (n + 3) % len(edges), n % 5} {
				if edges[m] > 0 {
					lay(t, d, 24, i, edges[m], put(0, "all", uint64(7-i)).Record, put(0, string('a'+rune(i)), 9).Record)
				}
			}
			open(t, d, 8)
		}
	}
}

// P16.2: a segment's records up to its last sector, and none; what stands behind a gap is not told.
func TestOpenUsed(t *testing.T) {
	for _, sectors := range []int{24, 25, 64} {
		for gap := range sectors + 1 {
			d := crafted(t, api.Super{Segments: 4, Sectors: sectors, Generation: 3})
			var l []api.Record
			for i := range sectors - 1 {
				l = append(l, put(0, "key "+number(uint64(i)), uint64(i+1)).Record)
			}
			lay(t, d, sectors, 2, 3, l...)
			want := api.Report{Segments: 1, Items: sectors - 1}
			if gap < sectors {
				d.Write(2+2*sectors+gap, api.Block{1})
				want.Items = gap - 1
			}
			if gap == 0 {
				want = api.Report{}
			}
			s, report := open(t, d, 64)
			if report != want {
				t.Fatalf("with a gap at %d there is %v; asked is %v", gap, report, want)
			}
			used := 0
			if gap > 0 {
				used = gap
			}
			if x := s.Log().Ring().Segs[2]; x.Used != used {
				t.Fatalf("with a gap at %d the segment is %v", gap, x)
			}
		}
	}
}

// P16.2: what is no header of its segment: another segment's, noughts, anything.
func TestOpenHeaders(t *testing.T) {
	d := crafted(t, api.Super{Segments: 4, Sectors: 24, Generation: 9})
	lay(t, d, 24, 1, 5, put(0, "a", 1).Record)
	lay(t, d, 24, 3, 6, put(0, "b", 2).Record)
	one, err := d.Read(2 + 24)
	is(t, err, api.OK)
	for _, b := range []api.Block{one, {}, {1, 2, 3}} {
		d.Write(2+3*24, b)
		s, report := open(t, d, 8)
		if report != (api.Report{Segments: 1, Items: 1}) || s.Log().Ring().Segs[3] != (api.Seg{}) {
			t.Errorf("there is %v", report)
		}
	}
}

// P16.2: as many items that live as slots, one more, one less, and many more: of more than slots the last ones of the records are entries, not those of the greatest sequences. The others are there still, for who has more slots.
func TestLeft(t *testing.T) {
	for live := range 7 {
		d := crafted(t, api.Super{Segments: 4, Sectors: 24, Generation: 9, Flush: 1})
		// The order is d, c, b, a, f, e; the sequences fall.
		order := []string{"d", "c", "b", "a", "f", "e"}
		var l []api.Record
		for i, key := range order[:live] {
			l = append(l, put(0, key, uint64(20-i)).Record)
		}
		l = append(l, put(0, "g", 1).Record, killed(0, "h", 7).Record)
		half := len(l) / 2
		lay(t, d, 24, 3, 2, l[:half]...)
		lay(t, d, 24, 0, 8, l[half:]...)
		for _, slots := range []int{1, 2, 3, 4, 5, 6, 7, 1024, 1} {
			left := max(0, live-slots)
			s, report := open(t, d, slots)
			if report != (api.Report{Segments: 2, Items: live - left, Tombs: 1, Gone: 1, Left: left}) {
				t.Fatalf("with %d slots there is %v", slots, report)
			}
			for i, key := range order[:live] {
				_, err := s.Get([]byte(key), 0)
				if (err == api.OK) != (i >= left) {
					t.Fatalf("with %d slots %q is error %d", slots, key, err)
				}
			}
		}
	}
}

// P16.2: as many items as fit on the greatest disk, with all slots and with fewer.
func TestMost(t *testing.T) {
	for _, slots := range []int{1, 62, 63, 64, 1007, 1008, 1009, 1024} {
		d := crafted(t, api.Super{Segments: 16, Sectors: 64, Generation: 16})
		for i := range 16 {
			var l []api.Record
			for j := range 63 {
				l = append(l, put(0, "key "+number(uint64(i*63+j)), uint64(2000-i)).Record)
			}
			lay(t, d, 64, i, uint64(16-i), l...)
		}
		s, report := open(t, d, slots)
		if report != (api.Report{Segments: 16, Items: min(slots, 1008), Left: 1008 - min(slots, 1008)}) {
			t.Errorf("with %d slots there is %v", slots, report)
		}
		// Nothing is free; the oldest goes, and then there is room for the last one of all.
		is(t, s.Put(item("key 62", 1, 3000)), api.ErrFull)
		is(t, s.Retire(15), api.OK)
		is(t, s.Put(item("key 62", 1, 3001)), api.OK)
		is(t, s.Sync(), api.OK)
		if _, report := open(t, d, slots); report != (api.Report{Segments: 16, Items: min(slots, 945), Gone: 1, Left: 945 - min(slots, 945)}) {
			t.Errorf("with %d slots there is %v", slots, report)
		}
	}
}

// P16.2: two records of one key and one Seq, in one segment and in two; a lesser Seq that comes last; a tombstone as the last word: on a disk.
func TestOpenLastWords(t *testing.T) {
	for _, x := range []struct {
		first, second []api.Record
		want          api.Report
		seq           uint64
	}{
		{[]api.Record{put(0, "a", 2).Record, put(0, "a", 2).Record}, nil, api.Report{Segments: 2, Items: 1, Gone: 1}, 2},
		{[]api.Record{put(0, "a", 2).Record}, []api.Record{put(0, "a", 2).Record}, api.Report{Segments: 2, Items: 1, Gone: 1}, 2},
		{[]api.Record{put(0, "a", 3).Record}, []api.Record{put(0, "a", 2).Record}, api.Report{Segments: 2, Items: 1, Gone: 1}, 3},
		{[]api.Record{put(0, "a", 3).Record}, []api.Record{killed(0, "a", 2).Record}, api.Report{Segments: 2, Items: 1, Tombs: 1}, 3},
		{[]api.Record{killed(0, "a", 3).Record}, []api.Record{put(0, "a", 2).Record}, api.Report{Segments: 2, Tombs: 1, Gone: 1}, 0},
		{[]api.Record{put(0, "a", 2).Record}, []api.Record{killed(0, "a", 2).Record}, api.Report{Segments: 2, Tombs: 1, Gone: 1}, 0},
		{[]api.Record{killed(0, "a", 2).Record}, []api.Record{put(0, "a", 2).Record}, api.Report{Segments: 2, Items: 1, Tombs: 1}, 2},
		{[]api.Record{put(0, "a", 2).Record, killed(0, "a", 3).Record, put(0, "a", 4).Record}, []api.Record{killed(0, "a", 5).Record, put(0, "a", 6).Record}, api.Report{Segments: 2, Items: 1, Tombs: 2, Gone: 2}, 6},
	} {
		d := crafted(t, api.Super{Segments: 4, Sectors: 24, Generation: 5})
		lay(t, d, 24, 1, 2, x.second...)
		lay(t, d, 24, 1, 5, x.second...)
		lay(t, d, 24, 2, 4, x.first...)
		s, report := open(t, d, 8)
		if y, _ := s.Get([]byte("a"), 0); report != x.want || y.Seq != x.seq {
			t.Errorf("there is %v, with seq %d; asked is %v, %d", report, y.Seq, x.want, x.seq)
		}
	}
}

// P16.2: the entries stand in the order of the records: of keys of one finger the last one is found first.
func TestEntries(t *testing.T) {
	orders := [][]int{{0, 1, 2, 3}, {3, 2, 1, 0}, {2, 0, 3, 1}}
	for _, order := range orders {
		d := crafted(t, api.Super{Segments: 4, Sectors: 24, Generation: 9})
		for i, k := range order {
			lay(t, d, 24, (i+2)%4, uint64(i+3), put(0, kin[k], uint64(k+1)).Record)
		}
		s, _ := open(t, d, 8)
		for i, k := range order {
			ops := d.Ops()
			if x, err := s.Get([]byte(kin[k]), 0); x.Seq != uint64(k+1) || d.Ops()-ops != 4-i {
				t.Errorf("%q has %s, error %d, of %d reads", kin[k], told(x), err, d.Ops()-ops)
			}
		}
	}
}

// P16.2: Open takes the disk as it is: what is pending is found, and stays pending.
func TestOpenPending(t *testing.T) {
	d := crafted(t, api.Super{Segments: 4, Sectors: 24, Generation: 9})
	s, _ := open(t, d, 8)
	is(t, s.Put(item("a", 5, 1)), api.OK)
	is(t, s.Put(item("b", 5, 2)), api.OK)
	if _, report := open(t, d, 8); report != (api.Report{Segments: 1, Items: 2}) || len(d.Pending()) != 2 {
		t.Errorf("there is %v, %v are pending", report, d.Pending())
	}
	d.Crash([]bool{true, false})
	if _, report := open(t, d, 8); report != (api.Report{Segments: 1, Items: 1}) {
		t.Errorf("there is %v", report)
	}
}

// P16.2: the store takes what it is asked, over all segments that were found: the next is the first free one behind the latest, of a generation that was never given.
func TestOpenWorks(t *testing.T) {
	d := full(t)
	s, _ := open(t, d, 6)
	is(t, s.Put(item("a", 5, 20)), api.OK)
	is(t, s.Put(item("i", 5, 21)), api.OK)
	is(t, s.Put(item("j", 5, 22)), api.ErrFull)
	want := []api.Seg{{State: 2, Generation: 7, Used: 4}, {State: 2, Generation: 8, Used: 20}, {State: 1, Generation: 9, Used: 3}, {State: 2, Generation: 6, Used: 12}}
	if r := s.Log().Ring(); !slices.Equal(r.Segs, want) {
		t.Errorf("the ring is %v; asked is %v", r.Segs, want)
	}
	is(t, s.Retire(0), api.ErrState)
	is(t, s.Kill([]byte("d"), 23), api.OK)
	is(t, s.Flush(4), api.OK)
	_, l := scansOf(t, d)
	for _, p := range l[3].Records {
		want := api.ErrNone
		if string(p.Record.Key) == "h" {
			want = api.OK
		}
		is(t, s.Move(p), want)
	}
	is(t, s.Retire(3), api.OK)
	// Of segment 0 nothing lived behind the Flush but what was outdone.
	for key, seq := range map[string]uint64{"a": 20, "b": 0, "d": 0, "g": 0, "h": 7, "i": 21} {
		if x, err := s.Get([]byte(key), 0); x.Seq != seq || (err == api.OK) != (seq > 0) {
			t.Errorf("%q has %s, error %d", key, told(x), err)
		}
	}
	d.Crash(nil)
	// a, i, tomb of d, h in segment 2; all of segment 0 is void or outdone; e lives.
	if _, report := open(t, d, 8); report != (api.Report{Segments: 3, Items: 4, Tombs: 2, Gone: 4}) {
		t.Errorf("there is %v", report)
	}
}
