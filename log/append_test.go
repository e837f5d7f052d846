package log_test

import (
	"slices"
	"testing"

	"icehouse/api"
	"icehouse/disk"
	"icehouse/log"
	"icehouse/super"
)

// P9.2: records of each size there is, each as the first one of a disk: the address, the sectors, the header, what is known.
func TestAppendSizes(t *testing.T) {
	for size := 22; size <= 783; size++ {
		p := fresh(t, 4, 24)
		r := sized(size, uint64(size))
		if a := p.appends(t, r); a != (api.Address{Segment: 0, Generation: 1, Sector: 1}) {
			t.Fatalf("a record of %d bytes stands at %v", size, a)
		}
		want := slices.Concat([]api.Block{head(0, 1)}, blocks(1, 1, r))
		if got := held(p.d)[2 : 2+len(want)]; !slices.Equal(got, want) {
			t.Fatalf("a record of %d bytes is %v; asked is %v", size, got, want)
		}
		if x := p.l.Ring().Segs[0]; x != (api.Seg{State: api.SegOpen, Generation: 1, Used: len(want)}) {
			t.Fatalf("behind a record of %d bytes the segment is %v", size, x)
		}
	}
}

// P9.2: the sectors of a segment byte by byte: a header, an item, a tombstone.
func TestAppendBytes(t *testing.T) {
	d, l := made(t, 4, 24)
	stands(t, l, item(17, 1), api.Address{Segment: 0, Generation: 1, Sector: 1})
	stands(t, l, item(17, 2), api.Address{Segment: 1, Generation: 2, Sector: 1})
	stands(t, l, api.Record{Kind: api.RecordTomb, Seq: 0x0102030405060708, Key: []byte("ab")}, api.Address{Segment: 1, Generation: 2, Sector: 18})
	stands(t, l, api.Record{Kind: api.RecordItem, Flags: 0x11121314, Expiry: 0x21222324, Seq: 3, Key: []byte("k"), Value: []byte("xyz")}, api.Address{Segment: 1, Generation: 2, Sector: 19})
	for _, x := range []struct {
		at   int
		want api.Block
	}{
		{2 + 24, api.Block{7: 2, 13: 2, 17: 1}},
		{2 + 24 + 18, api.Block{7: 2, 11: 18, 13: 23, 16: 2, 25: 1, 26: 2, 27: 3, 28: 4, 29: 5, 30: 6, 31: 7, 32: 8, 34: 2, 37: 'a', 38: 'b'}},
		{2 + 24 + 19, api.Block{7: 2, 11: 19, 13: 25, 16: 1,
			17: 0x11, 18: 0x12, 19: 0x13, 20: 0x14, 21: 0x21, 22: 0x22, 23: 0x23, 24: 0x24, 32: 3, 34: 1, 36: 3, 37: 'k', 38: 'x', 39: 'y', 40: 'z'}},
		{2 + 24 + 20, api.Block{}},
	} {
		if b, err := d.Read(x.at); b != x.want || err != api.OK {
			t.Errorf("sector %d is %v, error %d; asked is %v", x.at, b, err, x.want)
		}
	}
}

// P9.2: with so many sectors used, records of each count of sectors: just as many as are left, one more, one less.
func TestAppendLeft(t *testing.T) {
	for _, sectors := range []int{24, 25, 64} {
		for used := 2; used <= sectors; used++ {
			for count := 1; count <= 17; count++ {
				_, l := made(t, 4, sectors)
				for at := 1; at < used; at++ {
					stands(t, l, item(1, uint64(at)), api.Address{Segment: 0, Generation: 1, Sector: at})
				}
				want := api.Address{Segment: 0, Generation: 1, Sector: used}
				segs := []api.Seg{{State: api.SegOpen, Generation: 1, Used: used + count}, {}, {}, {}}
				if sectors-used < count {
					want = api.Address{Segment: 1, Generation: 2, Sector: 1}
					segs = []api.Seg{sealed(1, used), {State: api.SegOpen, Generation: 2, Used: 1 + count}, {}, {}}
				}
				stands(t, l, item(count, 99), want)
				if r := l.Ring(); !slices.Equal(r.Segs, segs) {
					t.Fatalf("%d of %d used, %d more: %v", used, sectors, count, r)
				}
				reads(t, l, want, item(count, 99))
			}
		}
	}
}

// P9.2: each segment is filled to its last sector, by records of one count; then the next one is opened; behind the last one the log is full.
func TestAppendFill(t *testing.T) {
	for _, sectors := range []int{24, 31, 64} {
		for count := 1; count <= 17; count++ {
			p := fresh(t, 4, sectors)
			each := (sectors - 1) / count
			for i := range 4 * each {
				want := api.Address{Segment: i / each, Generation: uint64(i/each + 1), Sector: 1 + i%each*count}
				if a := p.appends(t, item(count, uint64(i+1))); a != want {
					t.Fatalf("record %d of %d sectors stands at %v; asked is %v", i, count, a, want)
				}
			}
			full(t, p, item(count, 1000))
			for i := range 4 * each {
				a := api.Address{Segment: i / each, Generation: uint64(i/each + 1), Sector: 1 + i%each*count}
				reads(t, p.l, a, item(count, uint64(i+1)))
			}
			p.scans(t)
		}
	}
}

// full tells whether an Append answers ErrFull, and nothing has happened.
func full(t *testing.T, p *pair, r api.Record) {
	t.Helper()
	ring, known, ops, pending := p.l.Ring(), p.l.Super().Get(), p.d.Ops(), p.d.Pending()
	before := held(p.d)
	if a, err := p.append(t, r); a != (api.Address{}) || err != api.ErrFull {
		t.Fatalf("Append to a full log is %v, error %d", a, err)
	}
	if !sameRing(p.l.Ring(), ring) || p.l.Super().Get() != known || p.l.Broken() {
		t.Fatalf("ErrFull changes the log: %v, %v", p.l.Ring(), p.l.Super().Get())
	}
	if p.d.Ops() != ops || !slices.Equal(p.d.Pending(), pending) || !slices.Equal(held(p.d), before) {
		t.Fatal("ErrFull changes the disk")
	}
}

// P9.2: a full log whose last segment is open with some sectors left: ErrFull of more, again and again; as many as are left still go in.
func TestAppendFull(t *testing.T) {
	for left := 1; left < 17; left++ {
		p := fresh(t, 4, 24)
		for i := range 3 {
			p.appends(t, item(17, uint64(i+1)))
		}
		p.appends(t, item(1, 4))
		for p.m.ring.Segs[3].Used < 24-left {
			p.appends(t, item(1, 5))
		}
		for count := left + 1; count <= 17; count++ {
			full(t, p, item(count, 6))
		}
		if err := p.sync(t); err != api.OK {
			t.Fatalf("Sync of a full log is error %d", err)
		}
		full(t, p, item(17, 7))
		if a := p.appends(t, item(left, 8)); a != (api.Address{Segment: 3, Generation: 4, Sector: 24 - left}) {
			t.Fatalf("a record of as many as are left stands at %v", a)
		}
		full(t, p, item(1, 9))
		if err := p.free(t, 0); err != api.OK {
			t.Fatalf("Free of a full log is error %d", err)
		}
		if a := p.appends(t, item(1, 10)); a != (api.Address{Segment: 0, Generation: 5, Sector: 1}) {
			t.Fatalf("behind Free a record stands at %v", a)
		}
	}
}

// P9.2: a log whose segments are all sealed when it is opened is full.
func TestAppendAllSealed(t *testing.T) {
	p := fresh(t, 4, 24)
	for i := range 4 {
		p.appends(t, item(2, uint64(i+1)))
		p = sealedAnew(t, p)
	}
	full(t, p, item(1, 5))
	p.free(t, 0)
	if a := p.appends(t, item(1, 6)); a != (api.Address{Segment: 0, Generation: 5, Sector: 1}) {
		t.Errorf("behind Free a record stands at %v", a)
	}
}

// sealedAnew is a pair over the same disk whose ring is the same, but that what was open is sealed.
func sealedAnew(t *testing.T, p *pair) *pair {
	t.Helper()
	r := p.l.Ring()
	for i, s := range r.Segs {
		if s.State == api.SegOpen {
			r.Segs[i] = sealed(s.Generation, s.Used)
		}
	}
	return paired(t, p.d, r)
}

// P9.2, P9.3: round and round, lap by lap, behind Free of the oldest, on rings of all counts of segments: each segment is opened once a lap, generations rise by one, all that stands in segments that are not free is read.
func TestLaps(t *testing.T) {
	for segments := 4; segments <= 16; segments++ {
		p := fresh(t, segments, 24+segments)
		live := map[api.Address]api.Record{}
		for i := range 3*segments + 2 {
			if i >= segments {
				full(t, p, item(17, 1))
				if err := p.free(t, i%segments); err != api.OK {
					t.Fatalf("Free(%d) is error %d", i%segments, err)
				}
				for a := range live {
					if a.Segment == i%segments {
						delete(live, a)
						refuses(t, p.l, a, api.ErrNone)
					}
				}
			}
			for k, count := range []int{17, 4, 2} {
				r := item(count, uint64(100*i+k+1))
				a := p.appends(t, r)
				want := api.Address{Segment: i % segments, Generation: uint64(i + 1), Sector: []int{1, 18, 22}[k]}
				if a != want {
					t.Fatalf("lap %d of %d: %v; asked is %v", i, segments, a, want)
				}
				live[a] = r
			}
			for a, r := range live {
				reads(t, p.l, a, r)
			}
			p.scans(t)
			p = again(t, p, i, segments)
		}
	}
}

// again is the pair, or, each fifth time, one over the same disk with what was open sealed.
func again(t *testing.T, p *pair, i, segments int) *pair {
	t.Helper()
	if i%5 != 4 {
		// What is left is filled, so that the next record opens a segment.
		for used := 24; used < 24+segments; used++ {
			p.appends(t, item(1, 9999))
		}
		return p
	}
	return sealedAnew(t, p)
}

// P9.2: the next segment is the first free one behind the latest, whichever ring the Log was made of.
func TestAppendNext(t *testing.T) {
	for _, x := range []struct {
		segs []api.Seg
		at   int
	}{
		{[]api.Seg{{}, {}, {}, {}}, 0},
		{[]api.Seg{sealed(9, 3), {}, {}, {}}, 1},
		{[]api.Seg{{}, sealed(9, 3), {}, {}}, 2},
		{[]api.Seg{{}, {}, {}, sealed(9, 3)}, 0},
		{[]api.Seg{sealed(8, 3), {}, {}, sealed(9, 3)}, 1},
		{[]api.Seg{sealed(9, 3), {}, {}, sealed(8, 3)}, 1},
		{[]api.Seg{sealed(9, 3), sealed(8, 3), sealed(7, 3), {}}, 3},
		{[]api.Seg{{}, sealed(9, 3), sealed(2, 3), sealed(7, 3)}, 0},
		{[]api.Seg{{}, sealed(2, 24), sealed(9, 24), {}}, 3},
	} {
		d, s := formatted(t, 4, 24)
		s.Set(api.Super{Segments: 4, Sectors: 24, Generation: 9})
		p := paired(t, d, api.Ring{Sectors: 24, Segs: x.segs})
		if a := p.appends(t, item(3, 1)); a != (api.Address{Segment: x.at, Generation: 10, Sector: 1}) {
			t.Errorf("of %v the next is %v", x.segs, a)
		}
	}
}

// P9.2: generations go on from what is known, not from the ring.
func TestAppendGeneration(t *testing.T) {
	for _, g := range []uint64{0, 1, 255, 256, 1 << 32, 1 << 63, top - 1} {
		d, s := formatted(t, 4, 24)
		s.Set(api.Super{Segments: 4, Sectors: 24, Generation: g, Retired: g / 2, Reserved: 1024, Flush: 7})
		p := paired(t, d, free(4, 24))
		if a := p.appends(t, item(1, 1)); a != (api.Address{Segment: 0, Generation: g + 1, Sector: 1}) {
			t.Errorf("behind %d: %v", g, a)
		}
		knows(t, d, api.Super{Segments: 4, Sectors: 24, Generation: g + 1, Retired: g / 2, Reserved: 1024, Flush: 7})
	}
}

// P9.2, P9.6: behind the greatest generation there is no other one: the error of what failed, and nothing is given twice.
func TestAppendLastGeneration(t *testing.T) {
	for _, retired := range []uint64{0, 1, top} {
		d, s := formatted(t, 4, 24)
		x := api.Super{Segments: 4, Sectors: 24, Generation: top, Retired: retired}
		s.Set(x)
		before := held(d)
		want := s.Set(api.Super{Segments: 4, Sectors: 24, Retired: retired})
		l, _ := log.Open(s, free(4, 24))
		if a, err := l.Append(item(1, 1)); a != (api.Address{}) || err != want || err == api.OK {
			t.Errorf("Append is %v, error %d; asked is %d", a, err, want)
		}
		if s.Get() != x || !slices.Equal(held(d), before) || !l.Broken() {
			t.Errorf("known is %v, broken %t", s.Get(), l.Broken())
		}
	}
	d, s := formatted(t, 4, 24)
	s.Set(api.Super{Segments: 4, Sectors: 24, Generation: top - 1})
	l, _ := log.Open(s, free(4, 24))
	stands(t, l, item(17, 1), api.Address{Segment: 0, Generation: top, Sector: 1})
	if _, err := l.Append(item(17, 2)); err == api.OK || !l.Broken() {
		t.Errorf("Append behind the greatest generation is error %d", err)
	}
	knows(t, d, api.Super{Segments: 4, Sectors: 24, Generation: top})
	reads(t, l, api.Address{Segment: 0, Generation: top, Sector: 1}, item(17, 1))
}

// P9.2: a ring whose generations are not known is not written to: the open one must have the greatest.
func TestAppendUnknownGeneration(t *testing.T) {
	for _, g := range []uint64{1, 2, top} {
		d, s := formatted(t, 4, 24)
		l, _ := log.Open(s, api.Ring{Sectors: 24, Segs: []api.Seg{sealed(g, 2), {}, {}, {}}})
		if a, err := l.Append(item(1, 1)); a != (api.Address{}) || err != api.ErrArg || !l.Broken() {
			t.Errorf("Append is %v, error %d, broken %t", a, err, l.Broken())
		}
		for i, b := range held(d)[2:] {
			if b != (api.Block{}) {
				t.Errorf("sector %d is written: %v", i+2, b)
			}
		}
	}
}

// knows tells whether just that is known of the disk, and safe.
func knows(t *testing.T, d *disk.Disk, want api.Super) {
	t.Helper()
	c := d.Copy()
	c.Crash(nil)
	s, err := super.Open(c)
	if err != api.OK || s.Get() != want {
		t.Fatalf("known is %v, error %d; asked is %v", s.Get(), err, want)
	}
}

// wrongs are records that may not be.
func wrongs() []api.Record {
	key := make([]byte, 251)
	return []api.Record{
		{},
		{Kind: 0, Seq: 1, Key: key[:1]},
		{Kind: 3, Seq: 1, Key: key[:1]},
		{Kind: -1, Seq: 1, Key: key[:1]},
		{Kind: 257, Seq: 1, Key: key[:1]},
		{Kind: api.RecordItem, Seq: 0, Key: key[:1]},
		{Kind: api.RecordItem, Seq: 1},
		{Kind: api.RecordItem, Seq: 1, Key: key},
		{Kind: api.RecordItem, Seq: 1, Key: key[:1], Value: make([]byte, 513)},
		{Kind: api.RecordTomb, Seq: 0, Key: key[:1]},
		{Kind: api.RecordTomb, Seq: 1},
		{Kind: api.RecordTomb, Seq: 1, Flags: 1, Key: key[:1]},
		{Kind: api.RecordTomb, Seq: 1, Expiry: 1, Key: key[:1]},
		{Kind: api.RecordTomb, Seq: 1, Key: key[:1], Value: key[:1]},
		{Kind: api.RecordTomb, Seq: 1, Key: key},
	}
}

// P9.2: a record that may not be: nothing has happened; it goes ahead of a log that is full, and of one that is broken.
func TestAppendWrong(t *testing.T) {
	for _, r := range wrongs() {
		p := fresh(t, 4, 24)
		wrong := func() {
			t.Helper()
			ring, ops := p.l.Ring(), p.d.Ops()
			if a, err := p.append(t, r); a != (api.Address{}) || err != api.ErrRecord {
				t.Fatalf("Append(%v) is %v, error %d", r, a, err)
			}
			if !sameRing(p.l.Ring(), ring) || p.d.Ops() != ops {
				t.Fatal("ErrRecord changes something")
			}
		}
		wrong()
		for i := range 4 {
			p.appends(t, item(17, uint64(i+1)))
			wrong()
		}
		full(t, p, item(17, 5))
		wrong()
		p.cut(0, true)
		if err := p.sync(t); err != api.ErrIo {
			t.Fatalf("Sync is error %d", err)
		}
		wrong()
	}
}

// R3: what is handed in is not changed, the room behind its lists neither, and it is not kept.
func TestAppendKeepsNothing(t *testing.T) {
	_, l := made(t, 4, 24)
	r := api.Record{Kind: api.RecordItem, Seq: 1, Key: []byte("keyROOM")[:3], Value: []byte("valueROOM")[:5]}
	a, _ := l.Append(r)
	if string(r.Key[:7]) != "keyROOM" || string(r.Value[:9]) != "valueROOM" {
		t.Error("what was handed in is another one")
	}
	r.Key[0], r.Value[0] = 'X', 'X'
	reads(t, l, a, api.Record{Kind: api.RecordItem, Seq: 1, Key: []byte("key"), Value: []byte("value")})
}
