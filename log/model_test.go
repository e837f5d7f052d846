package log_test

import (
	"slices"
	"testing"

	"icehouse/api"
	"icehouse/disk"
	"icehouse/log"
	"icehouse/super"
)

// number is the bytes of a number, the highest first.
func number(n uint64, count int) []byte {
	out := make([]byte, count)
	for i := range out {
		out[count-1-i] = byte(n >> (8 * i))
	}
	return out
}

// bytesOf is a record's bytes by the words of chapter 6.
func bytesOf(r api.Record) []byte {
	return slices.Concat([]byte{byte(r.Kind)}, number(uint64(r.Flags), 4), number(uint64(r.Expiry), 4),
		number(r.Seq, 8), number(uint64(len(r.Key)), 2), number(uint64(len(r.Value)), 2), r.Key, r.Value)
}

// block is a stamped sector by the words of chapter 5, whatever it says.
func block(generation uint64, position, fill int, payload []byte) api.Block {
	var b api.Block
	copy(b[:], slices.Concat(number(generation, 8), number(uint64(position), 4), number(uint64(fill), 2), []byte{0, 0}, payload))
	return b
}

// head is a segment's header.
func head(segment int, generation uint64) api.Block {
	return block(generation, 0, 2, number(uint64(segment), 2))
}

// split is bytes in sectors, from that position on.
func split(generation uint64, at int, b []byte) []api.Block {
	var out []api.Block
	for from := 0; from == 0 || from < len(b); from += 48 {
		part := b[from:min(from+48, len(b))]
		out = append(out, block(generation, at+len(out), len(part), part))
	}
	return out
}

// blocks is a record's sectors, from that position on.
func blocks(generation uint64, at int, r api.Record) []api.Block {
	return split(generation, at, bytesOf(r))
}

// need is how many sectors a record has.
func need(r api.Record) int {
	return (21 + len(r.Key) + len(r.Value) + 47) / 48
}

// mayBe is chapter 6's words of which record may be.
func mayBe(r api.Record) bool {
	if r.Seq == 0 || len(r.Key) < 1 || len(r.Key) > 250 || len(r.Value) > 512 {
		return false
	}
	return r.Kind == 1 || r.Kind == 2 && r.Flags == 0 && r.Expiry == 0 && len(r.Value) == 0
}

// sized is an item of so many bytes, from 22 to 783, in which each sequence has other bytes.
func sized(size int, seq uint64) api.Record {
	value := min(512, size-22)
	r := api.Record{Kind: api.RecordItem, Flags: uint32(seq * 77), Expiry: uint32(seq * 991), Seq: seq}
	for i := range size - 21 - value {
		r.Key = append(r.Key, byte(7*int(seq)+3*i))
	}
	for i := range value {
		r.Value = append(r.Value, byte(11*int(seq)+5*i+1))
	}
	return r
}

// item is an item of so many sectors, the last one of which is filled.
func item(count int, seq uint64) api.Record {
	return sized(min(48*count, 783), seq)
}

// alike tells whether two records are the same.
func alike(a, b api.Record) bool {
	return a.Kind == b.Kind && a.Flags == b.Flags && a.Expiry == b.Expiry && a.Seq == b.Seq &&
		slices.Equal(a.Key, b.Key) && slices.Equal(a.Value, b.Value)
}

// nought tells whether a record is a zero one.
func nought(r api.Record) bool {
	return alike(r, api.Record{})
}

// sameRing tells whether two rings are the same.
func sameRing(a, b api.Ring) bool {
	return a.Sectors == b.Sectors && slices.Equal(a.Segs, b.Segs)
}

// sameScan tells whether two scans are the same.
func sameScan(a, b api.Scan) bool {
	return a.Generation == b.Generation && a.Used == b.Used && slices.EqualFunc(a.Records, b.Records, func(x, y api.Placed) bool {
		return x.Address == y.Address && alike(x.Record, y.Record)
	})
}

// held is what all sectors of a disk hold, whatever it is armed with, or set to fail at.
func held(d *disk.Disk) []api.Block {
	c := d.Copy()
	keep := make([]bool, len(c.Pending()))
	for i := range keep {
		keep[i] = true
	}
	c.Crash(keep)
	out := make([]api.Block, c.Len())
	for i := range out {
		out[i], _ = c.Read(i)
	}
	return out
}

// scanned is the scan of a segment by the chapter's words, of what its sectors hold.
func scanned(l []api.Block, segment int) api.Scan {
	var generation uint64
	for _, c := range l[0][:8] {
		generation = generation<<8 | uint64(c)
	}
	if generation == 0 || l[0] != head(segment, generation) {
		return api.Scan{}
	}
	out := api.Scan{Generation: generation, Used: 1}
	for {
		r, ok := recordAt(l, generation, out.Used)
		if !ok {
			return out
		}
		a := api.Address{Segment: segment, Generation: generation, Sector: out.Used}
		out.Records = append(out.Records, api.Placed{Address: a, Record: r})
		out.Used += need(r)
	}
}

// recordAt is the record that stands at a sector: what its head says is taken as it is, and must then make just the sectors that are there.
func recordAt(l []api.Block, generation uint64, at int) (api.Record, bool) {
	if at >= len(l) {
		return api.Record{}, false
	}
	count := func(from, to int) int {
		n := 0
		for _, c := range l[at][from:to] {
			n = n<<8 | int(c)
		}
		return n
	}
	key, value := count(33, 35), count(35, 37)
	if key > 250 || value > 512 {
		return api.Record{}, false
	}
	var all []byte
	for _, b := range l[at:min(at+17, len(l))] {
		all = append(all, b[16:]...)
	}
	if len(all) < 21+key+value {
		return api.Record{}, false
	}
	r := api.Record{
		Kind:   int(all[0]),
		Flags:  uint32(count(17, 21)),
		Expiry: uint32(count(21, 25)),
		Seq:    uint64(count(25, 33)),
		Key:    all[21 : 21+key],
		Value:  all[21+key : 21+key+value],
	}
	if !mayBe(r) || at+need(r) > len(l) {
		return api.Record{}, false
	}
	return r, slices.Equal(blocks(generation, at, r), l[at:at+need(r)])
}

// model is a log by the chapter's words, over a disk of its own.
type model struct {
	disk   *disk.Disk
	store  *super.Store
	ring   api.Ring
	broken bool
}

// modelOf is a model over a copy of the disk.
func modelOf(t *testing.T, d *disk.Disk, r api.Ring) *model {
	t.Helper()
	c := d.Copy()
	s, err := super.Open(c)
	if err != api.OK {
		t.Fatalf("super.Open: error %d", err)
	}
	return &model{disk: c, store: s, ring: api.Ring{Sectors: r.Sectors, Segs: slices.Clone(r.Segs)}}
}

// base is the disk's sector at which a segment begins.
func (m *model) base(segment int) int {
	return 2 + segment*m.ring.Sectors
}

// find is the segment that is best of those of a state; -1, if there is none.
func (m *model) find(state int, better func(a, b uint64) bool) int {
	at := -1
	for i, s := range m.ring.Segs {
		if s.State == state && (at < 0 || better(s.Generation, m.ring.Segs[at].Generation)) {
			at = i
		}
	}
	return at
}

// next is the first free segment behind the one of the greatest generation; -1, if there is none.
func (m *model) next() int {
	latest := len(m.ring.Segs) - 1
	for i, s := range m.ring.Segs {
		if s.Generation > m.ring.Segs[latest].Generation {
			latest = i
		}
	}
	for i := range m.ring.Segs {
		at := (latest + 1 + i) % len(m.ring.Segs)
		if m.ring.Segs[at].State == api.SegFree {
			return at
		}
	}
	return -1
}

// failed tells an error that breaks the log.
func (m *model) failed(err api.Errno) api.Errno {
	if err != api.OK {
		m.broken = true
	}
	return err
}

// open opens a segment, step by step.
func (m *model) open() api.Errno {
	at := m.next()
	if at < 0 {
		return api.ErrFull
	}
	if i := m.find(api.SegOpen, nil); i >= 0 {
		m.ring.Segs[i].State = api.SegSealed
	}
	x := m.store.Get()
	x.Generation++
	if err := m.store.Set(x); err != api.OK {
		return m.failed(err)
	}
	if err := m.disk.Write(m.base(at), head(at, x.Generation)); err != api.OK {
		return m.failed(err)
	}
	if err := m.disk.Sync(); err != api.OK {
		return m.failed(err)
	}
	m.ring.Segs[at] = api.Seg{State: api.SegOpen, Generation: x.Generation, Used: 1}
	return api.OK
}

// append is what Append is to do, and to answer.
func (m *model) append(r api.Record) (api.Address, api.Errno) {
	if !mayBe(r) {
		return api.Address{}, api.ErrRecord
	}
	if m.broken {
		return api.Address{}, api.ErrIo
	}
	at := m.find(api.SegOpen, nil)
	if at < 0 || m.ring.Sectors-m.ring.Segs[at].Used < need(r) {
		if err := m.open(); err != api.OK {
			return api.Address{}, err
		}
		at = m.find(api.SegOpen, nil)
	}
	a := api.Address{Segment: at, Generation: m.ring.Segs[at].Generation, Sector: m.ring.Segs[at].Used}
	for i, b := range blocks(a.Generation, a.Sector, r) {
		if err := m.disk.Write(m.base(at)+a.Sector+i, b); err != api.OK {
			return api.Address{}, m.failed(err)
		}
	}
	m.ring.Segs[at].Used += need(r)
	return a, api.OK
}

// sync is what Sync is to do, and to answer.
func (m *model) sync() api.Errno {
	if m.broken {
		return api.ErrIo
	}
	return m.failed(m.disk.Sync())
}

// free is what Free is to do, and to answer.
func (m *model) free(segment int) api.Errno {
	if segment < 0 || segment >= len(m.ring.Segs) {
		return api.ErrArg
	}
	if m.broken {
		return api.ErrIo
	}
	if m.find(api.SegSealed, func(a, b uint64) bool { return a < b }) != segment {
		return api.ErrState
	}
	x := m.store.Get()
	x.Retired = m.ring.Segs[segment].Generation
	if err := m.store.Set(x); err != api.OK {
		return m.failed(err)
	}
	m.ring.Segs[segment] = api.Seg{}
	return api.OK
}

// read is what Read is to answer of a disk that does not fail.
func (m *model) read(a api.Address) (api.Record, api.Errno) {
	if a.Segment < 0 || a.Segment >= len(m.ring.Segs) {
		return api.Record{}, api.ErrNone
	}
	s := m.ring.Segs[a.Segment]
	if a.Generation != s.Generation || a.Sector < 1 || a.Sector > s.Used-1 {
		return api.Record{}, api.ErrNone
	}
	r, ok := recordAt(m.segment(a.Segment), a.Generation, a.Sector)
	if !ok {
		return api.Record{}, api.ErrNone
	}
	return r, api.OK
}

// segment is what a segment's sectors hold.
func (m *model) segment(i int) []api.Block {
	return held(m.disk)[m.base(i) : m.base(i)+m.ring.Sectors]
}

// pair is a Log and a model, each with its disk, on which the same is done.
type pair struct {
	l *log.Log
	d *disk.Disk
	m *model
}

// paired is a Log over the disk, and its model.
func paired(t *testing.T, d *disk.Disk, r api.Ring) *pair {
	t.Helper()
	s, err := super.Open(d)
	if err != api.OK {
		t.Fatalf("super.Open: error %d", err)
	}
	l, err := log.Open(s, r)
	if l == nil || err != api.OK {
		t.Fatalf("Open(%v) is error %d", r, err)
	}
	return &pair{l, d, modelOf(t, d, r)}
}

// fresh is a pair over a disk that was just formatted.
func fresh(t *testing.T, segments, sectors int) *pair {
	t.Helper()
	d, _ := formatted(t, segments, sectors)
	return paired(t, d, free(segments, sectors))
}

// cut makes the operation behind n more fail, on both disks; or the power goes at that write or sync.
func (p *pair) cut(n int, fails bool) {
	for _, d := range []*disk.Disk{p.d, p.m.disk} {
		if fails {
			d.Fail(n)
		} else {
			d.Arm(n)
		}
	}
}

// whole takes back what cut did, as far as it has not struck.
func (p *pair) whole() {
	p.cut(-1, true)
	p.cut(-1, false)
}

// append appends to both.
func (p *pair) append(t *testing.T, r api.Record) (api.Address, api.Errno) {
	t.Helper()
	a, err := p.l.Append(r)
	b, want := p.m.append(r)
	if a != b || err != want {
		t.Fatalf("Append(%v) is %v, error %d; asked is %v, error %d", r, a, err, b, want)
	}
	p.same(t)
	return a, err
}

// appends appends what is to be OK.
func (p *pair) appends(t *testing.T, r api.Record) api.Address {
	t.Helper()
	a, err := p.append(t, r)
	if err != api.OK {
		t.Fatalf("Append(%v) is error %d", r, err)
	}
	return a
}

// sync syncs both.
func (p *pair) sync(t *testing.T) api.Errno {
	t.Helper()
	err, want := p.l.Sync(), p.m.sync()
	if err != want {
		t.Fatalf("Sync is error %d; asked is %d", err, want)
	}
	p.same(t)
	return err
}

// free frees a segment of both.
func (p *pair) free(t *testing.T, segment int) api.Errno {
	t.Helper()
	err, want := p.l.Free(segment), p.m.free(segment)
	if err != want {
		t.Fatalf("Free(%d) is error %d; asked is %d", segment, err, want)
	}
	p.same(t)
	return err
}

// reads reads an address of both.
func (p *pair) reads(t *testing.T, a api.Address) {
	t.Helper()
	r, err := p.l.Read(a)
	x, want := p.m.read(a)
	if !alike(r, x) || err != want {
		t.Fatalf("Read(%v) is %v, error %d; asked is %v, error %d", a, r, err, x, want)
	}
}

// scans scans all segments of both.
func (p *pair) scans(t *testing.T) {
	t.Helper()
	for i := range p.m.ring.Segs {
		x, err := log.Scan(p.l.Super(), i)
		if want := scanned(p.m.segment(i), i); err != api.OK || !sameScan(x, want) {
			t.Fatalf("Scan(%d) is %v, error %d; asked is %v", i, x, err, want)
		}
	}
}

// same tells whether both are as one, down to what is pending on their disks.
func (p *pair) same(t *testing.T) {
	t.Helper()
	if r := p.l.Ring(); !sameRing(r, p.m.ring) {
		t.Fatalf("the ring is %v; asked is %v", r, p.m.ring)
	}
	if x, want := p.l.Super().Get(), p.m.store.Get(); x != want {
		t.Fatalf("known is %v; asked is %v", x, want)
	}
	if p.l.Broken() != p.m.broken {
		t.Fatalf("Broken is %t", p.l.Broken())
	}
	if x, want := p.d.Pending(), p.m.disk.Pending(); !slices.Equal(x, want) || p.d.Dead() != p.m.disk.Dead() {
		t.Fatalf("pending is %v; asked is %v", x, want)
	}
	if !slices.Equal(held(p.d), held(p.m.disk)) {
		t.Fatal("the disk holds other sectors than it should")
	}
}
