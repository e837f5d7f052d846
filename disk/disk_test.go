package disk_test

import (
	"math"
	"slices"
	"testing"

	"icehouse/api"
	"icehouse/disk"
)

// block answers a sector's bytes that are like those of no other n, from the first to the last.
func block(n int) api.Block {
	var b api.Block
	for i := range b {
		b[i] = byte(n*31 + i + 1)
	}
	return b
}

// fresh answers a new disk.
func fresh(t *testing.T, sectors int) *disk.Disk {
	t.Helper()
	d, err := disk.New(sectors)
	if err != api.OK || d == nil {
		t.Fatalf("New(%d): error %d", sectors, err)
	}
	return d
}

// is fails, unless the error is that one.
func is(t *testing.T, what string, got, want api.Errno) {
	t.Helper()
	if got != want {
		t.Errorf("%s: error %d, not %d", what, got, want)
	}
}

// holds fails, unless sector i is read as b.
func holds(t *testing.T, what string, d *disk.Disk, i int, b api.Block) {
	t.Helper()
	got, err := d.Read(i)
	if err != api.OK || got != b {
		t.Errorf("%s: Read(%d): error %d, % x; not % x", what, i, err, got[:4], b[:4])
	}
}

// refuses fails, unless a read of sector i answers noughts beside that error.
func refuses(t *testing.T, what string, d *disk.Disk, i int, want api.Errno) {
	t.Helper()
	got, err := d.Read(i)
	if err != want || got != (api.Block{}) {
		t.Errorf("%s: Read(%d): error %d, % x; not %d and noughts", what, i, err, got[:4], want)
	}
}

// pends fails, unless just writes of those sectors are pending.
func pends(t *testing.T, what string, d *disk.Disk, want ...int) {
	t.Helper()
	if got := d.Pending(); !slices.Equal(got, want) {
		t.Errorf("%s: Pending: %v, not %v", what, got, want)
	}
}

// counts fails, unless so many operations were done.
func counts(t *testing.T, what string, d *disk.Disk, want int) {
	t.Helper()
	if got := d.Ops(); got != want {
		t.Errorf("%s: Ops: %d, not %d", what, got, want)
	}
}

// dead answers a disk of 4 of which the power is gone: sector 1 is safe, sector 2 is pending.
func dead(t *testing.T) *disk.Disk {
	t.Helper()
	d := fresh(t, 4)
	is(t, "Write", d.Write(1, block(1)), api.OK)
	is(t, "Sync", d.Sync(), api.OK)
	is(t, "Write", d.Write(2, block(2)), api.OK)
	is(t, "Arm", d.Arm(0), api.OK)
	is(t, "Write at the end", d.Write(3, block(3)), api.ErrDead)
	if !d.Dead() {
		t.Fatal("the power is there")
	}
	return d
}

// The chapter's first two examples: what is pending is read, and lives on as the script says.
func TestExampleOfACrash(t *testing.T) {
	d, x, y := fresh(t, 4), block(1), block(2)
	is(t, "Write(1, x)", d.Write(1, x), api.OK)
	is(t, "Write(2, y)", d.Write(2, y), api.OK)
	pends(t, "behind two writes", d, 1, 2)
	holds(t, "ahead of the crash", d, 1, x)
	is(t, "Crash", d.Crash([]bool{false, true}), api.OK)
	holds(t, "what did not live on", d, 1, api.Block{})
	holds(t, "what lived on", d, 2, y)
	pends(t, "behind the crash", d)
}

// The chapter's third example: what was synced comes back.
func TestExampleOfASync(t *testing.T) {
	d, x := fresh(t, 4), block(1)
	is(t, "Write(1, x)", d.Write(1, x), api.OK)
	is(t, "Sync", d.Sync(), api.OK)
	is(t, "Write(1, z)", d.Write(1, block(9)), api.OK)
	is(t, "Crash", d.Crash(nil), api.OK)
	holds(t, "behind the crash", d, 1, x)
}

// The chapter's fourth and fifth example: a failing disk, an armed one.
func TestExamplesOfFailingAndArming(t *testing.T) {
	d := fresh(t, 4)
	is(t, "Write(1, x)", d.Write(1, block(1)), api.OK)
	is(t, "Fail(1)", d.Fail(1), api.OK)
	holds(t, "ahead of the failure", d, 1, block(1))
	is(t, "Write(1, z)", d.Write(1, block(9)), api.ErrIo)
	is(t, "Write(1, z) once more", d.Write(1, block(9)), api.OK)
	d = fresh(t, 4)
	is(t, "Arm(1)", d.Arm(1), api.OK)
	is(t, "Write(0, x)", d.Write(0, block(1)), api.OK)
	is(t, "Write(0, y)", d.Write(0, block(2)), api.ErrDead)
	if !d.Dead() {
		t.Error("Dead: false")
	}
	refuses(t, "without power", d, 0, api.ErrDead)
}

// P2.1: from 1 to 2048 sectors, all noughts, with power, not armed, not set to fail.
func TestNew(t *testing.T) {
	for _, n := range []int{1, 2, 98, 2047, 2048} {
		d := fresh(t, n)
		if d.Len() != n || d.Dead() {
			t.Errorf("New(%d): Len %d, Dead %v", n, d.Len(), d.Dead())
		}
		pends(t, "new", d)
		counts(t, "new", d, 0)
		for i := range n {
			holds(t, "new", d, i, api.Block{})
		}
		is(t, "Write of the last", d.Write(n-1, block(1)), api.OK)
		is(t, "Write behind the last", d.Write(n, block(1)), api.ErrArg)
		is(t, "Sync", d.Sync(), api.OK)
		counts(t, "not armed, not set to fail", d, n+2)
	}
	for _, n := range []int{math.MinInt, -1, 0, 2049, math.MaxInt} {
		if d, err := disk.New(n); d != nil || err != api.ErrArg {
			t.Errorf("New(%d): error %d", n, err)
		}
	}
}

// P2.1, P2.5: a disk keeps its sectors, whatever is done.
func TestLenStays(t *testing.T) {
	d := dead(t)
	if d.Len() != 4 {
		t.Errorf("Len without power: %d", d.Len())
	}
	d.Crash([]bool{true})
	if d.Len() != 4 {
		t.Errorf("Len behind a crash: %d", d.Len())
	}
}

// P2.2: each sector holds the last write of it, whole; the others are left alone.
func TestWriteThenRead(t *testing.T) {
	d := fresh(t, 5)
	for i := range 5 {
		is(t, "Write", d.Write(i, block(i)), api.OK)
	}
	is(t, "Write", d.Write(3, block(30)), api.OK)
	is(t, "Write", d.Write(0, api.Block{}), api.OK)
	for i, b := range []api.Block{{}, block(1), block(2), block(30), block(4)} {
		holds(t, "pending", d, i, b)
	}
	is(t, "Sync", d.Sync(), api.OK)
	for i, b := range []api.Block{{}, block(1), block(2), block(30), block(4)} {
		holds(t, "safe", d, i, b)
	}
}

// P2.2: a sector that there is not: ErrArg, and nothing has changed.
func TestNoSuchSector(t *testing.T) {
	for _, i := range []int{math.MinInt, -1, 4, 5, 2048, math.MaxInt} {
		d := fresh(t, 4)
		is(t, "Write(3)", d.Write(3, block(3)), api.OK)
		is(t, "Write", d.Write(i, block(1)), api.ErrArg)
		refuses(t, "no such sector", d, i, api.ErrArg)
		pends(t, "behind no such sector", d, 3)
		counts(t, "behind no such sector", d, 1)
		for k, b := range []api.Block{{}, {}, {}, block(3)} {
			holds(t, "behind no such sector", d, k, b)
		}
	}
}

// P2.2, and the chapter's words: a sector that there is not is no operation; it neither fails nor takes the power.
func TestNoSuchSectorIsNoOperation(t *testing.T) {
	d := fresh(t, 4)
	is(t, "Fail(0)", d.Fail(0), api.OK)
	is(t, "Arm(0)", d.Arm(0), api.OK)
	is(t, "Write(4)", d.Write(4, block(1)), api.ErrArg)
	refuses(t, "set to fail", d, -1, api.ErrArg)
	if d.Dead() {
		t.Error("a sector that there is not takes the power")
	}
	refuses(t, "the one that fails", d, 0, api.ErrIo)
	is(t, "the one behind those that are done", d.Write(0, block(1)), api.ErrDead)
}

// P2.2: a disk without power: ErrDead, of sectors that there are not as well.
func TestWithoutPower(t *testing.T) {
	d := dead(t)
	for _, i := range []int{-1, 0, 1, 2, 3, 4} {
		refuses(t, "without power", d, i, api.ErrDead)
		is(t, "Write", d.Write(i, block(7)), api.ErrDead)
	}
	is(t, "Sync", d.Sync(), api.ErrDead)
	is(t, "Arm", d.Arm(-1), api.ErrDead)
	is(t, "Fail", d.Fail(-1), api.ErrDead)
	is(t, "Arm", d.Arm(3), api.ErrDead)
	is(t, "Fail", d.Fail(3), api.ErrDead)
	if !d.Dead() {
		t.Error("the power comes by itself")
	}
	pends(t, "without power", d, 2)
	counts(t, "without power", d, 3)
	is(t, "Crash", d.Crash([]bool{true, true}), api.OK)
	for i, b := range []api.Block{{}, block(1), block(2), {}} {
		holds(t, "behind the crash", d, i, b)
	}
	for range 5 {
		is(t, "Sync, not armed and not set to fail", d.Sync(), api.OK)
	}
}

// P2.2, R4: of a disk that is not there calls tell ErrNil, or nothing, whatever they are handed.
func TestNil(t *testing.T) {
	var d *disk.Disk
	for _, i := range []int{math.MinInt, -1, 0, 1, math.MaxInt} {
		refuses(t, "nil", d, i, api.ErrNil)
		is(t, "Write", d.Write(i, block(1)), api.ErrNil)
		is(t, "Arm", d.Arm(i), api.ErrNil)
		is(t, "Fail", d.Fail(i), api.ErrNil)
	}
	is(t, "Sync", d.Sync(), api.ErrNil)
	is(t, "Crash", d.Crash(nil), api.ErrNil)
	is(t, "Crash", d.Crash([]bool{true}), api.ErrNil)
	if d.Len() != 0 || d.Dead() || d.Ops() != 0 || d.Copy() != nil {
		t.Error("nil tells something")
	}
	pends(t, "nil", d)
}

// P2.3: each sector as often as it was written, in order; none behind a sync.
func TestPending(t *testing.T) {
	d := fresh(t, 4)
	for _, i := range []int{2, 0, 2, 2, 3, 0} {
		is(t, "Write", d.Write(i, block(5)), api.OK)
	}
	holds(t, "reads are not pending", d, 1, api.Block{})
	pends(t, "behind six writes", d, 2, 0, 2, 2, 3, 0)
	is(t, "Fail", d.Fail(0), api.OK)
	is(t, "Sync that fails", d.Sync(), api.ErrIo)
	pends(t, "behind a sync that fails", d, 2, 0, 2, 2, 3, 0)
	is(t, "Sync", d.Sync(), api.OK)
	pends(t, "behind a sync", d)
	is(t, "Write of the same", d.Write(3, block(5)), api.OK)
	pends(t, "behind one write of what is safe", d, 3)
	is(t, "Write that is not there", d.Write(4, block(5)), api.ErrArg)
	is(t, "Fail", d.Fail(0), api.OK)
	is(t, "Write that fails", d.Write(2, block(5)), api.ErrIo)
	is(t, "Arm", d.Arm(0), api.OK)
	is(t, "Write at the end", d.Write(1, block(5)), api.ErrDead)
	pends(t, "writes that were not done", d, 3)
}

// P2.3, R3: what Pending tells is new memory.
func TestPendingIsNew(t *testing.T) {
	d := fresh(t, 4)
	is(t, "Write", d.Write(1, block(1)), api.OK)
	is(t, "Write", d.Write(2, block(2)), api.OK)
	first := d.Pending()
	clear(first)
	pends(t, "behind a change of what was answered", d, 1, 2)
	first = d.Pending()
	is(t, "Crash", d.Crash([]bool{true, true}), api.OK)
	is(t, "Write", d.Write(3, block(3)), api.OK)
	if !slices.Equal(first, []int{1, 2}) {
		t.Errorf("what was answered changes: %v", first)
	}
	holds(t, "behind the crash", d, 2, block(2))
}

// P2.4: n more writes and syncs are done, of both kinds; the one behind them takes the power, and nothing of it is done.
func TestArm(t *testing.T) {
	for n := range 6 {
		for _, last := range []string{"Write", "Sync"} {
			d := fresh(t, 4)
			is(t, "Write ahead", d.Write(3, block(3)), api.OK)
			is(t, "Arm", d.Arm(n), api.OK)
			want := []int{3}
			for k := range n {
				if k%3 == 2 {
					is(t, "Sync", d.Sync(), api.OK)
					want = nil
				} else {
					is(t, "Write", d.Write(k%3, block(k)), api.OK)
					want = append(want, k%3)
				}
				if d.Dead() {
					t.Fatalf("Arm(%d): dead behind %d", n, k+1)
				}
			}
			if last == "Write" {
				is(t, "the one behind", d.Write(3, block(9)), api.ErrDead)
			} else {
				is(t, "the one behind", d.Sync(), api.ErrDead)
			}
			if !d.Dead() {
				t.Errorf("Arm(%d): the power is there behind the %s", n, last)
			}
			pends(t, "behind the end", d, want...)
			counts(t, "behind the end", d, n+1)
			is(t, "Crash", d.Crash(slices.Repeat([]bool{true}, 9)), api.OK)
			holds(t, "what the last one was of", d, 3, block(3))
		}
	}
}

// P2.4: below 0 the disk is not armed any more; otherwise the last Arm counts, and only from then on.
func TestArmAgain(t *testing.T) {
	for _, n := range []int{-1, -2, math.MinInt} {
		d := fresh(t, 4)
		is(t, "Arm(0)", d.Arm(0), api.OK)
		is(t, "Arm below 0", d.Arm(n), api.OK)
		for k := range 9 {
			is(t, "Write", d.Write(0, block(k)), api.OK)
		}
	}
	d := fresh(t, 4)
	is(t, "Arm(1)", d.Arm(1), api.OK)
	is(t, "Write", d.Write(0, block(1)), api.OK)
	is(t, "Arm(2)", d.Arm(2), api.OK)
	is(t, "Sync", d.Sync(), api.OK)
	is(t, "Write", d.Write(0, block(2)), api.OK)
	is(t, "Sync behind them", d.Sync(), api.ErrDead)
	d = fresh(t, 4)
	is(t, "Arm(9)", d.Arm(9), api.OK)
	is(t, "Arm(0)", d.Arm(0), api.OK)
	is(t, "Write", d.Write(0, block(1)), api.ErrDead)
	d = fresh(t, 4)
	is(t, "Arm of all", d.Arm(math.MaxInt), api.OK)
	is(t, "Write", d.Write(0, block(1)), api.OK)
}

// P2.7: reads, whether they fail or are of no sector, do not bring an armed disk nearer to its end.
func TestReadsDoNotWearOut(t *testing.T) {
	d := fresh(t, 4)
	is(t, "Arm(1)", d.Arm(1), api.OK)
	for range 5 {
		holds(t, "armed with 1", d, 1, api.Block{})
	}
	is(t, "Fail(0)", d.Fail(0), api.OK)
	refuses(t, "failing", d, 1, api.ErrIo)
	is(t, "Write", d.Write(1, block(1)), api.OK)
	for range 5 {
		holds(t, "armed with 0", d, 1, block(1))
	}
	is(t, "Sync", d.Sync(), api.ErrDead)
}

// P2.2, P2.4: the operation behind n more fails, reads counted; nothing of it is done, and the next one is.
func TestFail(t *testing.T) {
	for n := range 6 {
		for _, last := range []string{"Read", "Write", "Sync"} {
			d := fresh(t, 4)
			is(t, "Write ahead", d.Write(3, block(3)), api.OK)
			is(t, "Fail", d.Fail(n), api.OK)
			for k := range n {
				switch k % 3 {
				case 0:
					holds(t, "ahead of the failure", d, 3, block(3))
				case 1:
					is(t, "Write", d.Write(3, block(3)), api.OK)
				case 2:
					is(t, "Sync", d.Sync(), api.OK)
				}
			}
			pending := d.Pending()
			failing(t, d, last)
			pends(t, "behind the failure", d, pending...)
			counts(t, "behind the failure", d, n+1)
			if d.Dead() {
				t.Error("a failure takes the power")
			}
			holds(t, "the failure does nothing", d, 3, block(3))
			is(t, "Write behind the failure", d.Write(3, block(4)), api.OK)
			is(t, "Sync behind the failure", d.Sync(), api.OK)
			counts(t, "not set to fail any more", d, n+4)
		}
	}
}

// failing does an operation that has to fail.
func failing(t *testing.T, d *disk.Disk, what string) {
	t.Helper()
	switch what {
	case "Read":
		refuses(t, "failing", d, 3, api.ErrIo)
	case "Write":
		is(t, "failing Write", d.Write(3, block(9)), api.ErrIo)
	case "Sync":
		is(t, "failing Sync", d.Sync(), api.ErrIo)
	}
}

// P2.4: below 0 it is not set to fail any more; otherwise the last Fail counts, and only from then on.
func TestFailAgain(t *testing.T) {
	for _, n := range []int{-1, -2, math.MinInt} {
		d := fresh(t, 4)
		is(t, "Fail(0)", d.Fail(0), api.OK)
		is(t, "Fail below 0", d.Fail(n), api.OK)
		for range 9 {
			holds(t, "not set to fail", d, 0, api.Block{})
		}
	}
	d := fresh(t, 4)
	is(t, "Fail(1)", d.Fail(1), api.OK)
	holds(t, "one more", d, 0, api.Block{})
	is(t, "Fail(2)", d.Fail(2), api.OK)
	holds(t, "one of two more", d, 0, api.Block{})
	is(t, "two of two more", d.Sync(), api.OK)
	refuses(t, "the one behind", d, 0, api.ErrIo)
	holds(t, "behind the failure", d, 0, api.Block{})
	is(t, "Fail of all", d.Fail(math.MaxInt), api.OK)
	holds(t, "far from failing", d, 0, api.Block{})
}

// P2.4: what asks no operation counts for neither: Len, Pending, Dead, Ops, Copy, Arm, Fail.
func TestAskingIsNoOperation(t *testing.T) {
	d := fresh(t, 4)
	is(t, "Fail(1)", d.Fail(1), api.OK)
	is(t, "Arm(1)", d.Arm(1), api.OK)
	for range 3 {
		d.Len()
		d.Pending()
		d.Dead()
		d.Ops()
		d.Copy()
	}
	counts(t, "nothing was asked", d, 0)
	is(t, "one more", d.Write(0, block(1)), api.OK)
	is(t, "the one that fails", d.Write(0, block(2)), api.ErrIo)
	is(t, "the one that takes the power", d.Write(0, block(2)), api.ErrDead)
}

// P2.2, R2: ErrIo goes ahead of the power that would go; what fails changes nothing, so the power goes at the next one.
func TestFailAheadOfArm(t *testing.T) {
	for _, what := range []string{"Write", "Sync"} {
		d := fresh(t, 4)
		is(t, "Write", d.Write(3, block(3)), api.OK)
		is(t, "Arm(0)", d.Arm(0), api.OK)
		is(t, "Fail(0)", d.Fail(0), api.OK)
		failing(t, d, what)
		if d.Dead() {
			t.Errorf("a %s that fails takes the power", what)
		}
		is(t, "the next one", d.Sync(), api.ErrDead)
		d = fresh(t, 4)
		is(t, "Arm(1)", d.Arm(1), api.OK)
		is(t, "Fail(0)", d.Fail(0), api.OK)
		failing(t, d, what)
		is(t, "the one that is left", d.Sync(), api.OK)
		is(t, "the one behind", d.Sync(), api.ErrDead)
	}
}

// P2.5: of one sector that is pending more than once the last write that lives on counts, and what is safe, if none does.
func TestCrashOfOneSector(t *testing.T) {
	for _, c := range []struct {
		keep []bool
		want int
	}{
		{nil, 0},
		{[]bool{}, 0},
		{[]bool{false, false, false}, 0},
		{[]bool{true}, 1},
		{[]bool{true, false, false}, 1},
		{[]bool{false, true}, 2},
		{[]bool{true, true}, 2},
		{[]bool{true, true, false}, 2},
		{[]bool{false, false, true}, 3},
		{[]bool{true, false, true}, 3},
		{[]bool{true, true, true}, 3},
		{[]bool{false, false, false, true, true}, 0},
		{[]bool{true, false, false, true, true, true}, 1},
	} {
		d := fresh(t, 4)
		is(t, "Write", d.Write(2, block(0)), api.OK)
		is(t, "Sync", d.Sync(), api.OK)
		for k := 1; k <= 3; k++ {
			is(t, "Write", d.Write(2, block(k)), api.OK)
		}
		is(t, "Crash", d.Crash(c.keep), api.OK)
		holds(t, "behind the crash", d, 2, block(c.want))
		pends(t, "behind the crash", d)
		is(t, "Crash again", d.Crash(nil), api.OK)
		holds(t, "behind one more crash", d, 2, block(c.want))
	}
}

// P2.5: places go by the writes, not by the sectors; other sectors stay.
func TestCrashOfMany(t *testing.T) {
	d := fresh(t, 5)
	is(t, "Write", d.Write(4, block(4)), api.OK)
	is(t, "Sync", d.Sync(), api.OK)
	for k, i := range []int{3, 1, 3, 0, 1} {
		is(t, "Write", d.Write(i, block(10+k)), api.OK)
	}
	is(t, "Crash", d.Crash([]bool{true, true, false, false}), api.OK)
	for i, b := range []api.Block{{}, block(11), {}, block(10), block(4)} {
		holds(t, "behind the crash", d, i, b)
	}
}

// P2.5: a crash lets the power go and come: not armed, not set to fail then, whether the power had gone or not.
func TestCrashSetsFree(t *testing.T) {
	for _, gone := range []bool{false, true} {
		d := fresh(t, 4)
		is(t, "Write", d.Write(1, block(1)), api.OK)
		is(t, "Arm(0)", d.Arm(0), api.OK)
		is(t, "Fail(1)", d.Fail(1), api.OK)
		if gone {
			is(t, "Sync", d.Sync(), api.ErrDead)
		}
		is(t, "Crash", d.Crash([]bool{true}), api.OK)
		if d.Dead() {
			t.Error("no power behind a crash")
		}
		holds(t, "behind the crash", d, 1, block(1))
		for k := range 4 {
			is(t, "Write behind the crash", d.Write(1, block(k)), api.OK)
		}
		is(t, "Sync behind the crash", d.Sync(), api.OK)
	}
}

// P2.5, R3: the list is neither changed nor kept.
func TestCrashKeepsNoList(t *testing.T) {
	d := fresh(t, 4)
	is(t, "Write", d.Write(1, block(1)), api.OK)
	is(t, "Write", d.Write(2, block(2)), api.OK)
	room := []bool{true, false, true, true}
	is(t, "Crash", d.Crash(room[:1]), api.OK)
	if !slices.Equal(room, []bool{true, false, true, true}) {
		t.Errorf("the list is changed: %v", room)
	}
	holds(t, "a place behind the end is false", d, 2, api.Block{})
	room[0] = false
	holds(t, "behind a change of the list", d, 1, block(1))
}

// P2.6: what was done counts, ever; what failed, was refused, or was not done does not.
func TestOps(t *testing.T) {
	d := fresh(t, 4)
	holds(t, "a read", d, 0, api.Block{})
	counts(t, "a read", d, 1)
	is(t, "Write", d.Write(0, block(1)), api.OK)
	counts(t, "a write", d, 2)
	is(t, "Sync", d.Sync(), api.OK)
	is(t, "Sync of nothing", d.Sync(), api.OK)
	counts(t, "two syncs", d, 4)
	is(t, "Fail", d.Fail(0), api.OK)
	is(t, "Write", d.Write(0, block(2)), api.ErrIo)
	is(t, "Write", d.Write(9, block(2)), api.ErrArg)
	counts(t, "what failed, what was refused", d, 4)
	is(t, "Crash", d.Crash(nil), api.OK)
	counts(t, "a crash", d, 4)
	is(t, "Arm", d.Arm(0), api.OK)
	is(t, "Sync", d.Sync(), api.ErrDead)
	is(t, "Sync", d.Sync(), api.ErrDead)
	counts(t, "what was not done", d, 4)
	is(t, "Crash", d.Crash(nil), api.OK)
	holds(t, "behind the crash", d, 0, block(1))
	counts(t, "behind two crashes", d, 5)
}

// P2.6: a copy has the same sectors, pending writes, arming, failing and Ops.
func TestCopyIsTheSame(t *testing.T) {
	d := fresh(t, 4)
	is(t, "Write", d.Write(1, block(1)), api.OK)
	is(t, "Sync", d.Sync(), api.OK)
	is(t, "Write", d.Write(1, block(2)), api.OK)
	is(t, "Write", d.Write(2, block(3)), api.OK)
	is(t, "Arm(1)", d.Arm(1), api.OK)
	is(t, "Fail(2)", d.Fail(2), api.OK)
	c := d.Copy()
	if c == nil || c.Len() != 4 || c.Dead() {
		t.Fatal("the copy is another disk")
	}
	counts(t, "copy", c, 4)
	pends(t, "copy", c, 1, 2)
	holds(t, "copy", c, 1, block(2))
	holds(t, "copy", c, 2, block(3))
	is(t, "the copy fails", c.Write(0, block(4)), api.ErrIo)
	is(t, "the copy does one more", c.Write(0, block(4)), api.OK)
	is(t, "the copy's power goes", c.Write(0, block(5)), api.ErrDead)
	if d.Dead() {
		t.Error("the copy takes the power of what it was made of")
	}
	is(t, "Crash of the copy", c.Crash([]bool{false, true, true}), api.OK)
	for i, b := range []api.Block{block(4), block(1), block(3), {}} {
		holds(t, "the copy, behind its crash", c, i, b)
	}
}

// P2.6: a disk and its copy go on by themselves.
func TestCopyGoesOnByItself(t *testing.T) {
	d := fresh(t, 4)
	for k := range 5 { // the room behind the pending writes' end must not be shared either
		is(t, "Write", d.Write(0, block(k)), api.OK)
	}
	c := d.Copy()
	is(t, "Write", d.Write(1, block(11)), api.OK)
	is(t, "Write of the copy", c.Write(2, block(12)), api.OK)
	pends(t, "disk", d, 0, 0, 0, 0, 0, 1)
	pends(t, "copy", c, 0, 0, 0, 0, 0, 2)
	holds(t, "disk", d, 2, api.Block{})
	holds(t, "copy", c, 1, api.Block{})
	is(t, "Sync", d.Sync(), api.OK)
	is(t, "Crash of the copy", c.Crash([]bool{false, true}), api.OK)
	holds(t, "disk", d, 0, block(4))
	holds(t, "copy", c, 0, block(1))
	is(t, "Crash", d.Crash(nil), api.OK)
	holds(t, "disk", d, 0, block(4))
	holds(t, "disk", d, 1, block(11))
	is(t, "Fail of the copy", c.Fail(0), api.OK)
	is(t, "Arm of the copy", c.Arm(0), api.OK)
	is(t, "Write", d.Write(3, block(13)), api.OK)
}

// P2.6: the copy of a disk without power is without power, till it crashes itself.
func TestCopyWithoutPower(t *testing.T) {
	d := dead(t)
	c := d.Copy()
	if !c.Dead() {
		t.Error("the copy has power")
	}
	pends(t, "copy", c, 2)
	refuses(t, "copy", c, 1, api.ErrDead)
	is(t, "Crash of the copy", c.Crash([]bool{true}), api.OK)
	holds(t, "copy", c, 2, block(2))
	if !d.Dead() {
		t.Error("the copy's crash gives power to what it was made of")
	}
	is(t, "Crash", d.Crash(nil), api.OK)
	holds(t, "disk", d, 2, api.Block{})
}

// R5: a sector's bytes are handed in and out whole, by value.
func TestBlocksAreValues(t *testing.T) {
	d := fresh(t, 1)
	b := block(1)
	is(t, "Write", d.Write(0, b), api.OK)
	b[0]++
	holds(t, "behind a change of what was handed in", d, 0, block(1))
	got, _ := d.Read(0)
	got[63]++
	holds(t, "behind a change of what was answered", d, 0, block(1))
}
