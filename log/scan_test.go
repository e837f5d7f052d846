package log_test

import (
	"math"
	"slices"
	"testing"

	"icehouse/api"
	"icehouse/disk"
	"icehouse/log"
	"icehouse/super"
)

// laid is a disk on which the blocks stand from the begin of a segment on, and what is known of it.
func laid(t *testing.T, segments, sectors, segment int, l []api.Block) (*disk.Disk, *super.Store) {
	t.Helper()
	d, s := formatted(t, segments, sectors)
	for i, b := range l {
		if err := d.Write(2+segment*sectors+i, b); err != api.OK {
			t.Fatalf("Write: error %d", err)
		}
	}
	return d, s
}

// scans tells whether Scan answers just that, and the model of it, too.
func scans(t *testing.T, d *disk.Disk, s *super.Store, segment int, want api.Scan) {
	t.Helper()
	x, err := log.Scan(s, segment)
	if err != api.OK || !sameScan(x, want) {
		t.Fatalf("Scan(%d) is %v, error %d; asked is %v", segment, x, err, want)
	}
	at, n := 2+segment*s.Get().Sectors, s.Get().Sectors
	if m := scanned(held(d)[at:at+n], segment); !sameScan(m, want) {
		t.Fatalf("the model of Scan(%d) is %v; asked is %v", segment, m, want)
	}
}

// scanOf is the scan that tells these records.
func scanOf(segment int, generation uint64, l ...api.Record) api.Scan {
	out := api.Scan{Generation: generation, Used: 1}
	for _, r := range l {
		a := api.Address{Segment: segment, Generation: generation, Sector: out.Used}
		out.Records = append(out.Records, api.Placed{Address: a, Record: r})
		out.Used += need(r)
	}
	return out
}

// run is a header and records, one behind the other.
func run(segment int, generation uint64, l ...api.Record) []api.Block {
	out := []api.Block{head(segment, generation)}
	for _, r := range l {
		out = append(out, blocks(generation, len(out), r)...)
	}
	return out
}

// P9.5: no such segment, and which error goes ahead.
func TestScanArg(t *testing.T) {
	for _, segments := range []int{4, 16} {
		d, s := formatted(t, segments, 24)
		for _, i := range []int{math.MinInt, -1, segments, segments + 1, 1 << 32, math.MaxInt} {
			if x, err := log.Scan(s, i); err != api.ErrArg || !sameScan(x, api.Scan{}) {
				t.Errorf("Scan(%d) is %v, error %d", i, x, err)
			}
			if x, err := log.Scan(nil, i); err != api.ErrNil || !sameScan(x, api.Scan{}) {
				t.Errorf("Scan(%d) of nil is %v, error %d", i, x, err)
			}
		}
		for i := range segments {
			scans(t, d, s, i, api.Scan{})
		}
		d.Arm(0)
		d.Sync()
		for _, i := range []int{-1, segments} {
			if _, err := log.Scan(s, i); err != api.ErrArg {
				t.Errorf("Scan(%d) of a dead disk is error %d", i, err)
			}
		}
	}
}

// P9.5: each segment with a header alone, of each number.
func TestScanHeaderNumber(t *testing.T) {
	for segment := range 16 {
		for number := range 18 {
			d, s := laid(t, 16, 24, segment, []api.Block{head(number, 7)})
			if number == segment {
				scans(t, d, s, segment, api.Scan{Generation: 7, Used: 1})
			} else {
				scans(t, d, s, segment, api.Scan{})
			}
		}
	}
}

// P9.5: what is no header, though it is much like one; a record behind it is not told either.
func TestScanNoHeader(t *testing.T) {
	for _, b := range []api.Block{
		{},
		block(0, 0, 2, []byte{0, 1}),
		block(7, 1, 2, []byte{0, 1}),
		block(7, 1<<24, 2, []byte{0, 1}),
		block(7, 0, 0, nil),
		block(7, 0, 1, []byte{1}),
		block(7, 0, 1, []byte{0, 1}),
		block(7, 0, 3, []byte{0, 1}),
		block(7, 0, 3, []byte{0, 1, 0}),
		block(7, 0, 2, []byte{0, 1, 1}),
		block(7, 0, 2, []byte{1, 0}),
		block(7, 0, 2, []byte{1, 1}),
		block(7, 0, 4, []byte{0, 0, 0, 1}),
		block(7, 0, 2+256, []byte{0, 1}),
		block(7, 0, 48, append([]byte{0, 1}, make([]byte, 46)...)),
		block(7, 0, 49, []byte{0, 1}),
		func() api.Block { b := head(1, 7); b[14] = 1; return b }(),
		func() api.Block { b := head(1, 7); b[15] = 1; return b }(),
		func() api.Block { b := head(1, 7); b[63] = 1; return b }(),
		blocks(7, 0, item(1, 1))[0],
	} {
		l := append([]api.Block{b}, blocks(7, 1, item(2, 1))...)
		d, s := laid(t, 4, 24, 1, l)
		scans(t, d, s, 1, api.Scan{})
		l[0] = head(1, 7)
		d, s = laid(t, 4, 24, 1, l)
		scans(t, d, s, 1, scanOf(1, 7, item(2, 1)))
	}
}

// P9.5: records of all counts of sectors, one behind the other, to just the end of the segment, and short of it.
func TestScanRecords(t *testing.T) {
	for count := 1; count <= 17; count++ {
		for _, sectors := range []int{24, 64} {
			var l []api.Record
			for seq := uint64(1); 1+(len(l)+1)*count <= sectors; seq++ {
				l = append(l, sized(48*count-int(seq%40)-33*(count/17), seq))
			}
			for n := range len(l) + 1 {
				d, s := laid(t, 4, sectors, 2, run(2, 5, l[:n]...))
				scans(t, d, s, 2, scanOf(2, 5, l[:n]...))
			}
		}
	}
	tomb := api.Record{Kind: api.RecordTomb, Seq: 3, Key: []byte("k")}
	l := []api.Record{item(17, 1), tomb, item(4, 2), tomb}
	d, s := laid(t, 4, 24, 3, run(3, top, l...))
	scans(t, d, s, 3, scanOf(3, top, l...))
}

// P9.5: a record of which one sector is another one: what stands ahead of it is told, and nothing from there on.
func TestScanCut(t *testing.T) {
	ahead, behind := item(2, 1), item(1, 3)
	for count := 1; count <= 17; count++ {
		r := item(count, 2)
		whole := run(1, 9, ahead, r, behind)
		first := 1 + need(ahead)
		last := first + count - 1
		for at := first; at <= last; at++ {
			was := whole[at]
			payload := was[16:]
			fill := int(was[12])<<8 | int(was[13])
			others := []api.Block{
				{},
				block(8, at, fill, payload),
				block(10, at, fill, payload),
				block(9, at-1, fill, payload),
				block(9, at+1, fill, payload),
				block(9, 0, fill, payload),
				block(9, at, fill-1, payload[:fill-1]),
				block(9, at, 0, nil),
				block(9, at, 49, payload),
				func() api.Block { b := was; b[14] = 1; return b }(),
				func() api.Block { b := was; b[0] = 1; return b }(),
				func() api.Block { b := was; b[8] = 1; return b }(),
			}
			if fill < 48 {
				others = append(others, block(9, at, fill+1, payload), block(9, at, 48, payload), func() api.Block { b := was; b[63] = 1; return b }())
			}
			for i, b := range others {
				l := slices.Clone(whole)
				l[at] = b
				if b == was {
					t.Fatalf("block %d is no other one", i)
				}
				d, s := laid(t, 4, 24, 1, l)
				scans(t, d, s, 1, scanOf(1, 9, ahead))
				one(t, d, 1, 9, first, nil)
			}
			// The log ends there, with what an elder generation had behind.
			l := append(slices.Clone(whole[:at]), run(1, 8, item(17, 4), item(5, 5))[at:]...)
			d, s := laid(t, 4, 24, 1, l)
			scans(t, d, s, 1, scanOf(1, 9, ahead))
			one(t, d, 1, 9, first, nil)
		}
		d, s := laid(t, 4, 24, 1, whole)
		scans(t, d, s, 1, scanOf(1, 9, ahead, r, behind))
		one(t, d, 1, 9, first, &r)
	}
}

// one tells whether Read finds the record at that sector, if the ring has that generation there, and all is used; with nil ErrNone is asked.
func one(t *testing.T, d *disk.Disk, segment int, generation uint64, sector int, want *api.Record) {
	t.Helper()
	s, _ := super.Open(d)
	r := free(s.Get().Segments, s.Get().Sectors)
	r.Segs[segment] = sealed(generation, r.Sectors)
	l, err := log.Open(s, r)
	if err != api.OK {
		t.Fatalf("Open: error %d", err)
	}
	a := api.Address{Segment: segment, Generation: generation, Sector: sector}
	if want == nil {
		refuses(t, l, a, api.ErrNone)
	} else {
		reads(t, l, a, *want)
	}
}

// P9.5, P9.4: a record's sectors that changed places, and one that is left out.
func TestScanOrder(t *testing.T) {
	r := item(4, 1)
	whole := run(0, 3, r)
	for i := 1; i <= 4; i++ {
		for k := 1; k < i; k++ {
			l := slices.Clone(whole)
			l[i], l[k] = l[k], l[i]
			d, s := laid(t, 4, 24, 0, l)
			scans(t, d, s, 0, scanOf(0, 3))
			one(t, d, 0, 3, 1, nil)
		}
		l := slices.Delete(slices.Clone(whole), i, i+1)
		d, s := laid(t, 4, 24, 0, l)
		scans(t, d, s, 0, scanOf(0, 3))
		one(t, d, 0, 3, 1, nil)
	}
}

// P9.5, P9.4: sectors that are joined well, but to what is no record that may be, or not to just its bytes.
func TestScanNoRecord(t *testing.T) {
	var bad [][]byte
	for _, r := range wrongs() {
		// A kind of 257 is one of 1 in its byte.
		if r.Kind < 256 {
			bad = append(bad, bytesOf(r))
		}
	}
	for _, count := range []int{1, 2, 17} {
		r := item(count, 1)
		for _, x := range []int{21, 22} {
			bad = append(bad, bytesOf(r)[:min(x, 48*count-1)])
		}
		short := bytesOf(sized(48*count-40, 2))
		for _, more := range [][]byte{{0}, {1}, make([]byte, 20), bytesOf(item(1, 3))} {
			bad = append(bad, slices.Concat(short, more))
		}
		bad = append(bad, short[:len(short)-1])
	}
	bad = append(bad, nil, []byte{1}, bytesOf(item(1, 1))[:20], make([]byte, 48), make([]byte, 21))
	for i, b := range bad {
		l := append([]api.Block{head(0, 3)}, split(3, 1, b)...)
		l = append(l, blocks(3, len(l), item(1, 9))...)
		d, s := laid(t, 4, 24, 0, l)
		if x, err := log.Scan(s, 0); err != api.OK || !sameScan(x, scanOf(0, 3)) {
			t.Errorf("bytes %d: %v, error %d", i, x, err)
		}
		one(t, d, 0, 3, 1, nil)
	}
}

// P9.5, P9.4: a record that ends behind its segment is none, though its sectors go on in the next one.
func TestScanEnd(t *testing.T) {
	for count := 2; count <= 17; count++ {
		r := item(count, 1)
		for over := 1; over < count; over++ {
			l := run(0, 3)
			for len(l)+count-over < 24 {
				l = append(l, blocks(3, len(l), item(1, 7))...)
			}
			from := len(l)
			l = append(l, blocks(3, len(l), r)...)
			d, s := laid(t, 4, 24, 0, l)
			want := scanOf(0, 3)
			for range from - 1 {
				want = scanOf(0, 3, append(recordsOf(want), item(1, 7))...)
			}
			scans(t, d, s, 0, want)
			one(t, d, 0, 3, from, nil)
			// Of the last segment, too, behind which the disk ends.
			d, s = laid(t, 4, 24, 3, append([]api.Block{head(3, 3)}, l[1:24]...))
			x, err := log.Scan(s, 3)
			if err != api.OK || x.Used != want.Used || len(x.Records) != len(want.Records) {
				t.Fatalf("Scan(3) is %v, error %d", x, err)
			}
			one(t, d, 3, 3, from, nil)
		}
	}
}

// recordsOf is the records of a scan.
func recordsOf(x api.Scan) []api.Record {
	var out []api.Record
	for _, p := range x.Records {
		out = append(out, p.Record)
	}
	return out
}

// P9.5: behind a gap nothing is told, though records stand there; what elder generations left is not told.
func TestScanGap(t *testing.T) {
	l := run(2, 4, item(1, 1), item(2, 2))
	l = append(l, api.Block{})
	l = append(l, blocks(4, len(l), item(1, 3))...)
	d, s := laid(t, 4, 24, 2, l)
	scans(t, d, s, 2, scanOf(2, 4, item(1, 1), item(2, 2)))
	elder := run(2, 3, item(3, 4), item(1, 5), item(2, 6), item(17, 7))
	for n := range 4 {
		l := run(2, 4, item(1, 1), item(1, 2), item(1, 3))[:n+1]
		d, s := laid(t, 4, 24, 2, append(l, elder[n+1:]...))
		want := []api.Record{item(1, 1), item(1, 2), item(1, 3)}[:n]
		scans(t, d, s, 2, scanOf(2, 4, want...))
	}
}

// P9.5: each sector of the segment that can't be read: the disk's error; then the scan is told.
func TestScanFails(t *testing.T) {
	for _, l := range [][]api.Block{nil, run(1, 2), run(1, 2, item(17, 1), item(1, 2)), run(1, 2, item(17, 1), item(6, 2))} {
		d, s := laid(t, 4, 24, 1, l)
		want, _ := log.Scan(s, 1)
		for n := range 24 {
			d.Fail(n)
			if x, err := log.Scan(s, 1); err != api.ErrIo || !sameScan(x, api.Scan{}) {
				t.Errorf("with %d sectors, at %d: %v, error %d", len(l), n, x, err)
			}
			scans(t, d, s, 1, want)
		}
		d.Fail(24)
		scans(t, d, s, 1, want)
		d.Fail(-1)
		d.Sync()
		d.Arm(0)
		d.Sync()
		if x, err := log.Scan(s, 1); err != api.ErrDead || !sameScan(x, api.Scan{}) {
			t.Errorf("of a dead disk: %v, error %d", x, err)
		}
		d.Crash(nil)
		scans(t, d, s, 1, want)
	}
}

// P9.5: Scan writes nothing, and tells what is pending, too; what it answers is new memory.
func TestScanChangesNothing(t *testing.T) {
	d, s := laid(t, 4, 24, 1, run(1, 2, item(17, 1), item(3, 2)))
	before, pending := held(d), d.Pending()
	d.Arm(0)
	for range 3 {
		x, err := log.Scan(s, 1)
		if err != api.OK || !sameScan(x, scanOf(1, 2, item(17, 1), item(3, 2))) {
			t.Fatalf("Scan is %v, error %d", x, err)
		}
		for _, p := range x.Records {
			p.Record.Key[0]++
			p.Record.Value[0]++
			_ = append(p.Record.Key, 1, 2, 3)
			_ = append(p.Record.Value, 1, 2, 3)
		}
		x.Records[0] = api.Placed{}
	}
	if !slices.Equal(held(d), before) || !slices.Equal(d.Pending(), pending) {
		t.Error("Scan changes the disk")
	}
}

// P9.5, P9.6: of a segment that is opened anew what stood there earlier is told no more, whatever was there, and however much of it is written over.
func TestScanAnew(t *testing.T) {
	for elder := 1; elder <= 17; elder++ {
		for newer := 1; newer <= 17; newer++ {
			p := fresh(t, 4, 24)
			for i := range 4 {
				for p.m.ring.Segs[i].Used+elder <= 24 || p.m.ring.Segs[i].Used == 0 {
					p.appends(t, item(elder, uint64(i+1)))
				}
			}
			p = sealedAnew(t, p)
			p.free(t, 0)
			if x, _ := log.Scan(p.l.Super(), 0); x.Generation != 1 || len(x.Records) != 23/elder {
				t.Fatalf("Scan of what was freed is %v", x)
			}
			var want []api.Record
			for seq := uint64(90); 1+(len(want)+1)*newer <= 24; seq++ {
				want = append(want, item(newer, seq))
				p.appends(t, item(newer, seq))
				scans(t, p.d, p.l.Super(), 0, scanOf(0, 5, want...))
			}
		}
	}
}

// P9.5: segments of blocks of all kinds, drawn by a fixed row of numbers: Scan and Read tell what the chapter's words tell.
func TestScanDrawn(t *testing.T) {
	w := drawer(7)
	told := 0
	for range 1500 {
		l := make([]api.Block, 24)
		l[0] = head(1, 3)
		for at := 1; at < 24; {
			r := item(1+w.pick(4), uint64(1+w.pick(3)))
			g := uint64(3)
			if w.pick(8) == 0 {
				g = 2
			}
			b := blocks(g, at, r)
			if w.pick(6) == 0 {
				b = b[:w.pick(len(b)+1)]
			}
			for _, x := range b {
				if at < 24 {
					l[at] = x
				}
				at++
			}
			if w.pick(8) == 0 {
				at++
			}
		}
		for range w.pick(2) {
			l[w.pick(24)][w.pick(64)] ^= 1 << w.pick(8)
		}
		d, s := laid(t, 4, 24, 1, l)
		want := scanned(l, 1)
		scans(t, d, s, 1, want)
		told += len(want.Records)
		for at := 1; at < 24; at++ {
			if r, ok := recordAt(l, 3, at); ok {
				one(t, d, 1, 3, at, &r)
			} else {
				one(t, d, 1, 3, at, nil)
			}
		}
	}
	if told < 1000 {
		t.Errorf("%d records were told in all", told)
	}
}

// drawn is a row of numbers that hangs on its first one alone.
type drawn struct{ seed uint64 }

func drawer(seed int) *drawn { return &drawn{uint64(seed)} }

// pick is one of the numbers below n.
func (w *drawn) pick(n int) int {
	w.seed = w.seed*6364136223846793005 + 1442695040888963407
	return int(w.seed >> 33 % uint64(n))
}
