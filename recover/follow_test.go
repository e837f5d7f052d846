package recover_test

import (
	"testing"

	"icehouse/api"
	"icehouse/clean"
	"icehouse/disk"
	"icehouse/recover"
	"icehouse/store"
)

// behindCrash is the store of a copy of the disk, behind a crash in which those live on.
func behindCrash(t *testing.T, d *disk.Disk, keep []bool, slots int) (*store.Store, api.Report) {
	t.Helper()
	c := d.Copy()
	c.Crash(keep)
	return open(t, c, slots)
}

// made is a new store of four segments with these items, synced, and its disk.
func made(t *testing.T, slots int, items ...api.Item) (*store.Store, *disk.Disk) {
	t.Helper()
	d := empty(t, 98)
	s, err := recover.Format(d, free(4, 24), slots)
	is(t, err, api.OK)
	for _, x := range items {
		is(t, s.Put(x), api.OK)
	}
	is(t, s.Sync(), api.OK)
	return s, d
}

// has asks for just this item.
func has(t *testing.T, s *store.Store, x api.Item) {
	t.Helper()
	if y, err := s.Get(x.Key, 0); err != api.OK || !same(x, y) {
		t.Fatalf("it is %s, error %d; asked is %s", told(y), err, told(x))
	}
}

// hasNone asks for nothing of these keys.
func hasNone(t *testing.T, s *store.Store, keys ...string) {
	t.Helper()
	for _, key := range keys {
		if x, err := s.Get([]byte(key), 0); err != api.ErrNone {
			t.Fatalf("%q has %s, error %d", key, told(x), err)
		}
	}
}

// movedOnce moves the record that stands there, and tells how many writes are pending behind it.
func movedOnce(t *testing.T, s *store.Store, d *disk.Disk, segment, n int) int {
	t.Helper()
	_, l := scansOf(t, d)
	is(t, s.Move(l[segment].Records[n]), api.OK)
	return len(d.Pending())
}

// P16.4: a record that was moved lives once, behind any crash, ahead of its old place being retired and behind that; as often as it is moved.
func TestMovedOnce(t *testing.T) {
	a, b := item("a", 100, 1), item("b", 5, 2)
	s, d := made(t, 8, a, b)
	for n := range 4 {
		pending := movedOnce(t, s, d, 0, []int{0, 2, 3, 4}[n])
		for _, keep := range keeps(pending) {
			x, report := behindCrash(t, d, keep, 8)
			if report.Items != 2 || report.Tombs != 0 || report.Gone > n+1 {
				t.Fatalf("moved %d times there is %v", n+1, report)
			}
			has(t, x, a)
			has(t, x, b)
		}
		if n%2 > 0 {
			is(t, s.Sync(), api.OK)
		}
	}
	is(t, s.Put(sized("x", 17, 3)), api.OK)
	x, err := clean.Step(s, 0)
	if x != (api.Cleaned{Segment: 0, Moved: 2, Left: 4}) || err != api.OK {
		t.Fatalf("Step is %v, error %d", x, err)
	}
	y, report := behindCrash(t, d, nil, 8)
	if report.Items != 3 || report.Gone != 0 {
		t.Errorf("there is %v", report)
	}
	has(t, y, a)
	has(t, y, b)
}

// P16.4: what was killed does not live, whatever crashes, as long as its item stands somewhere, and when its tombstone does not any more; put again it lives.
func TestKilledStays(t *testing.T) {
	s, d := made(t, 8, item("a", 5, 1), item("b", 5, 2), item("c", 5, 3))
	is(t, s.Kill([]byte("a"), 4), api.OK)
	is(t, s.Put(item("b", 7, 5)), api.OK)
	is(t, s.Kill([]byte("b"), 6), api.OK)
	seq := uint64(6)
	for round := range 9 {
		for _, keep := range some(len(d.Pending())) {
			x, report := behindCrash(t, d, keep, 8)
			hasNone(t, x, "a", "b")
			has(t, x, item("c", 5, 3))
			if round == 0 && report != (api.Report{Segments: 1, Items: 1, Tombs: 2, Gone: 3}) {
				t.Errorf("there is %v", report)
			}
		}
		// The store is sometimes the one behind the crash.
		if round%3 == 1 {
			d.Crash(nil)
			s, _ = open(t, d, 8)
		}
		seq++
		if err := s.Put(sized("x", 17, seq)); err == api.ErrFull {
			t.Fatal("there is no room")
		}
		if round > 0 {
			_, err := clean.Room(s, 2, 0)
			is(t, err, api.OK)
		}
	}
	if _, report := behindCrash(t, d, nil, 8); report.Tombs != 0 {
		t.Errorf("%d tombstones are there still", report.Tombs)
	}
	again := item("a", 9, seq+1)
	is(t, s.Put(again), api.OK)
	is(t, s.Sync(), api.OK)
	x, _ := behindCrash(t, d, nil, 8)
	has(t, x, again)
}

// P16.4: what was flushed, or retired, does not live; what was put behind that does.
func TestFlushedAndRetired(t *testing.T) {
	s, d := made(t, 8, item("a", 5, 1), sized("b", 17, 2), sized("c", 17, 3))
	is(t, s.Flush(1), api.OK)
	for _, keep := range keeps(len(d.Pending())) {
		x, report := behindCrash(t, d, keep, 8)
		hasNone(t, x, "a")
		if report != (api.Report{Segments: 2, Items: 2, Gone: 1}) {
			t.Errorf("there is %v", report)
		}
	}
	is(t, s.Put(item("a", 5, 4)), api.OK)
	is(t, s.Retire(0), api.OK)
	for _, keep := range keeps(len(d.Pending())) {
		x, report := behindCrash(t, d, keep, 8)
		has(t, x, item("a", 5, 4))
		hasNone(t, x, longer("b", 250))
		if report != (api.Report{Segments: 1, Items: 2}) {
			t.Errorf("there is %v", report)
		}
	}
	is(t, s.Flush(9), api.OK)
	if x, report := behindCrash(t, d, nil, 8); report != (api.Report{Segments: 1, Gone: 2}) || x.Len() != 0 {
		t.Errorf("there is %v", report)
	}
}

// P16.4: of what there was no slot for nothing is lost, nor does it come back when it is killed, overwritten, flushed or retired while it is no entry.
func TestLeftStays(t *testing.T) {
	_, d := made(t, 8, item("a", 5, 1), item("b", 5, 2), item("c", 5, 3), item("d", 5, 4), item("e", 5, 5))
	s, report := open(t, d, 2)
	if report != (api.Report{Segments: 1, Items: 2, Left: 3}) {
		t.Fatalf("there is %v", report)
	}
	hasNone(t, s, "a", "b", "c")
	is(t, s.Put(item("a", 6, 6)), api.ErrFull)
	is(t, s.Kill([]byte("a"), 7), api.OK)
	is(t, s.Kill([]byte("e"), 8), api.OK)
	is(t, s.Put(item("b", 6, 9)), api.OK)
	is(t, s.Sync(), api.OK)
	x, report := behindCrash(t, d, nil, 8)
	if report != (api.Report{Segments: 2, Items: 3, Tombs: 2, Gone: 3}) {
		t.Fatalf("there is %v", report)
	}
	hasNone(t, x, "a", "e")
	has(t, x, item("b", 6, 9))
	has(t, x, item("c", 5, 3))
	has(t, x, item("d", 5, 4))
	// What is no entry is not moved: it goes with its segment.
	s, _ = open(t, d, 2)
	is(t, s.Put(sized("b", 17, 10)), api.ErrFull)
	is(t, s.Kill([]byte("b"), 10), api.OK)
	is(t, s.Put(sized("f", 17, 11)), api.OK)
	if y, err := clean.Step(s, 0); y.Moved != 1 || err != api.OK {
		t.Fatalf("Step is %v, error %d", y, err)
	}
	x, report = behindCrash(t, d, nil, 8)
	if report.Items != 2 {
		t.Fatalf("there is %v", report)
	}
	hasNone(t, x, "a", "b", "c", "e")
	has(t, x, item("d", 5, 4))
	has(t, x, sized("f", 17, 11))
}

// P16.4: where a lesser Seq was put behind a greater one, the greater one lives behind a crash, and a tombstone of a lesser Seq kills nothing.
func TestLesserLast(t *testing.T) {
	s, d := made(t, 8, item("a", 5, 9), item("a", 6, 4), item("b", 5, 8))
	has(t, s, item("a", 6, 4))
	is(t, s.Kill([]byte("b"), 3), api.OK)
	hasNone(t, s, "b")
	x, report := behindCrash(t, d, nil, 8)
	if report != (api.Report{Segments: 1, Items: 2, Tombs: 1, Gone: 1}) {
		t.Errorf("there is %v", report)
	}
	has(t, x, item("a", 5, 9))
	has(t, x, item("b", 5, 8))
}

// P16.4: what Open finds it finds again, as often as it is asked, with a crash between and without; a store that was opened earlier, and of which nothing was asked, changes nothing of it.
func TestOpenAgain(t *testing.T) {
	s, d := made(t, 8, item("a", 5, 1), sized("b", 17, 2), item("c", 5, 3))
	is(t, s.Kill([]byte("a"), 4), api.OK)
	is(t, s.Put(item("d", 200, 5)), api.OK)
	d.Crash([]bool{true, false, true})
	var first api.Report
	for i := range 6 {
		s, report := open(t, d, 8)
		if i == 0 {
			first = report
		}
		if report != first || report != (api.Report{Segments: 2, Items: 2, Tombs: 1, Gone: 1}) {
			t.Errorf("there is %v; it was %v", report, first)
		}
		has(t, s, item("c", 5, 3))
		if i%2 > 0 {
			d.Crash(nil)
		}
	}
	// Behind the record that was cut, the rest of the segment stays unused.
	s, _ = open(t, d, 8)
	is(t, s.Put(item("e", 5, 6)), api.OK)
	is(t, s.Sync(), api.OK)
	for range 3 {
		x, report := behindCrash(t, d, nil, 8)
		if report != (api.Report{Segments: 3, Items: 3, Tombs: 1, Gone: 1}) {
			t.Errorf("there is %v", report)
		}
		has(t, x, item("e", 5, 6))
		hasNone(t, x, "a", "d")
	}
}

// P16.4: crash behind crash, each with a put, a kill and a Step ahead of it, through many laps: what is there is just what was put last and not killed.
func TestLaps(t *testing.T) {
	s, d := made(t, 8)
	seq := uint64(0)
	var live []api.Item
	for round := range 120 {
		name := string('a' + rune(round%5))
		seq += 3
		x := sized(name, 1+round%7, seq)
		is(t, s.Put(x), api.OK)
		for i, y := range live {
			if string(y.Key) == name {
				live = append(live[:i], live[i+1:]...)
				break
			}
		}
		live = append(live, x)
		if round%4 == 3 {
			is(t, s.Kill(live[0].Key, seq+1), api.OK)
			hasNone(t, s, string(live[0].Key))
			live = live[1:]
		}
		_, err := clean.Room(s, 2, 0)
		is(t, err, api.OK)
		is(t, s.Sync(), api.OK)
		d.Crash(nil)
		var report api.Report
		if s, report = open(t, d, 8); report.Items != len(live) || report.Left != 0 {
			t.Fatalf("round %d: there is %v; asked are %d", round, report, len(live))
		}
		for _, x := range live {
			has(t, s, x)
		}
	}
	if g := s.Log().Super().Get().Generation; g < 100 {
		t.Errorf("the generation is %d", g)
	}
}
