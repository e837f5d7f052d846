package clean_test

import (
	"bytes"
	"slices"
	"strconv"
	"testing"

	"icehouse/api"
	"icehouse/clean"
	"icehouse/disk"
	"icehouse/log"
	"icehouse/ring"
	"icehouse/store"
	"icehouse/super"
)

// kin are keys of one finger.
var kin = []string{"nihh", "tcgpub", "osbmke", "hhopwe"}

// cell is a record in a segment: the sector at which it stands, and whether it is its key's entry.
type cell struct {
	at    int
	rec   api.Record
	entry bool
}

// part is a segment; its keys are those of its filter.
type part struct {
	state      int
	generation uint64
	used       int
	cells      []*cell
	keys       []string
}

// plain is what the chapters 8, 9, 14 and 15 say, of lists alone: it has no disk and no bytes.
type plain struct {
	sectors, slots             int
	parts                      []part
	generation, retired, flush uint64
}

// bitsOf are the bits of a key's hash (FNV-1a) in a filter of 1024.
func bitsOf(key string) []uint32 {
	h := uint64(14695981039346656037)
	for _, b := range []byte(key) {
		h = (h ^ uint64(b)) * 1099511628211
	}
	a, b := uint32(h), uint32(h>>32)|1
	return []uint32{a % 1024, (a + b) % 1024, (a + 2*b) % 1024, (a + 3*b) % 1024}
}

// pick tells the part with the least, or the greatest, generation of those in one of the states; -1, if there is none.
func (p *plain) pick(greatest bool, states ...int) int {
	found := -1
	for i, x := range p.parts {
		if slices.Contains(states, x.state) && (found < 0 || (x.generation > p.parts[found].generation) == greatest) {
			found = i
		}
	}
	return found
}

func (p *plain) oldest() int { return p.pick(false, api.SegSealed) }

func (p *plain) opened() int { return p.pick(true, api.SegOpen) }

func (p *plain) frees() int {
	n := 0
	for _, x := range p.parts {
		if x.state == api.SegFree {
			n++
		}
	}
	return n
}

// append lays a record behind all others, and tells the part in which it is the last one.
func (p *plain) append(r api.Record) (*part, api.Errno) {
	need := sectorsOf(r)
	at := p.opened()
	if at < 0 || p.parts[at].used+need > p.sectors {
		if p.frees() == 0 {
			return nil, api.ErrFull
		}
		if at >= 0 {
			p.parts[at].state = api.SegSealed
		}
		at = p.pick(true, api.SegSealed) + 1
		for p.parts[at%len(p.parts)].state != api.SegFree {
			at++
		}
		at %= len(p.parts)
		p.generation++
		p.parts[at] = part{state: api.SegOpen, generation: p.generation, used: 1}
	}
	x := &p.parts[at]
	x.cells = append(x.cells, &cell{at: x.used, rec: r})
	x.used += need
	return x, api.OK
}

// enter lays an item's record, which is its key's entry from then on.
func (p *plain) enter(r api.Record, elder *cell) api.Errno {
	x, err := p.append(r)
	if err != api.OK {
		return err
	}
	if elder != nil {
		elder.entry = false
	}
	x.cells[len(x.cells)-1].entry = true
	x.keys = append(x.keys, string(r.Key))
	return api.OK
}

// entry is the key's; nil, if it has none.
func (p *plain) entry(key string) *cell {
	for _, x := range p.parts {
		for _, c := range x.cells {
			if c.entry && string(c.rec.Key) == key {
				return c
			}
		}
	}
	return nil
}

// len is how many entries there are.
func (p *plain) len() int {
	n := 0
	for _, x := range p.parts {
		for _, c := range x.cells {
			if c.entry {
				n++
			}
		}
	}
	return n
}

func (p *plain) put(x api.Item) api.Errno {
	elder := p.entry(string(x.Key))
	if elder == nil && p.len() >= p.slots {
		return api.ErrFull
	}
	return p.enter(recordOf(x), elder)
}

func (p *plain) kill(key string, seq uint64) api.Errno {
	elder := p.entry(key)
	if _, err := p.append(api.Record{Kind: api.RecordTomb, Seq: seq, Key: []byte(key)}); err != api.OK {
		return err
	}
	if elder != nil {
		elder.entry = false
	}
	return api.OK
}

// get tells the key's record at now; the zero one, if there is none.
func (p *plain) get(key string, now uint32) api.Record {
	c := p.entry(key)
	if c == nil || c.rec.Seq <= p.flush || gone(c.rec, now) {
		return api.Record{}
	}
	return c.rec
}

func (p *plain) may(key string) bool {
	for _, x := range p.parts {
		has := map[uint32]int{}
		for _, k := range x.keys {
			for _, bit := range bitsOf(k) {
				has[bit]++
			}
		}
		if !slices.ContainsFunc(bitsOf(key), func(bit uint32) bool { return has[bit] == 0 }) {
			return true
		}
	}
	return false
}

// retire makes the oldest one free.
func (p *plain) retire() (int, api.Errno) {
	at := p.oldest()
	if at < 0 {
		return 0, api.ErrNone
	}
	p.retired = p.parts[at].generation
	p.parts[at] = part{}
	return at, api.OK
}

// step is Step; beside ErrFull it tells how many were moved by then.
func (p *plain) step(now uint32) (api.Cleaned, api.Errno) {
	at := p.oldest()
	if at < 0 {
		return api.Cleaned{}, api.ErrNone
	}
	out := api.Cleaned{Segment: at}
	for _, c := range p.parts[at].cells {
		if !c.entry || c.rec.Seq <= p.flush || gone(c.rec, now) {
			out.Left++
			continue
		}
		if err := p.enter(c.rec, c); err != api.OK {
			return api.Cleaned{Moved: out.Moved}, err
		}
		out.Moved++
	}
	p.retire()
	return out, api.OK
}

func (p *plain) room(n int, now uint32) (api.Room, api.Errno) {
	step := func() (api.Cleaned, api.Errno) { return p.step(now) }
	drop := func() api.Errno { _, err := p.retire(); return err }
	return roomByWords(len(p.parts), n, p.frees, step, drop)
}

// roomByWords is Room of a store that is there, and not degraded; step tells beside ErrFull how many were moved by then.
func roomByWords(segments, n int, frees func() int, step func() (api.Cleaned, api.Errno), drop func() api.Errno) (api.Room, api.Errno) {
	if n < 0 || n >= segments {
		return api.Room{}, api.ErrArg
	}
	var out api.Room
	full := false
	for frees() < n {
		if full || out.Steps == 2*segments {
			if err := drop(); err != api.OK {
				return api.Room{}, err
			}
			out.Drops++
			continue
		}
		c, err := step()
		full = err == api.ErrFull
		switch {
		case err == api.OK:
			out.Steps++
		case !full:
			return api.Room{}, err
		}
		out.Moved += c.Moved
	}
	return out, api.OK
}

// again is what is there behind a crash of which all that was written lives on.
func (p *plain) again() {
	for i := range p.parts {
		x := &p.parts[i]
		if x.state == api.SegOpen {
			x.state = api.SegSealed
		}
		x.keys = nil
		for _, c := range x.cells {
			c.entry = c.entry && c.rec.Seq > p.flush
			if c.entry {
				x.keys = append(x.keys, string(c.rec.Key))
			}
		}
	}
}

// watched is a store, its disk, and what it should be.
type watched struct {
	s     *store.Store
	d     *disk.Disk
	p     *plain
	names []string // all keys that were put, or killed
}

// formatted is a disk of so many segments without anything in them.
func formatted(t *testing.T, segments, sectors int) *disk.Disk {
	t.Helper()
	d, err := disk.New(2 + segments*sectors)
	if err != api.OK {
		t.Fatalf("disk.New: error %d", err)
	}
	if _, err := super.Format(d, segments, sectors); err != api.OK {
		t.Fatalf("super.Format: error %d", err)
	}
	return d
}

// recovered is the store of a disk behind a crash, by the words of chapter 16.
func recovered(t *testing.T, d *disk.Disk, slots int) *store.Store {
	t.Helper()
	known, err := super.Open(d)
	if err != api.OK {
		t.Fatalf("super.Open: error %d", err)
	}
	x := known.Get()
	r, _ := ring.New(x.Segments, x.Sectors)
	var scans []api.Scan
	for i := range r.Segs {
		y, err := log.Scan(known, i)
		if err != api.OK {
			t.Fatalf("log.Scan: error %d", err)
		}
		if y.Generation > x.Retired && y.Generation <= x.Generation {
			r.Segs[i] = api.Seg{State: api.SegSealed, Generation: y.Generation, Used: y.Used}
			scans = append(scans, y)
		}
	}
	slices.SortFunc(scans, func(a, b api.Scan) int { return int(a.Generation) - int(b.Generation) })
	l, err := log.Open(known, r)
	if err != api.OK {
		t.Fatalf("log.Open: error %d", err)
	}
	s, err := store.New(l, slots, lastWords(scans, x.Flush))
	if err != api.OK {
		t.Fatalf("store.New: error %d", err)
	}
	return s
}

// lastWords are the items that live, by rising generations.
func lastWords(scans []api.Scan, flush uint64) []api.Placed {
	last := map[string]api.Placed{}
	var all []api.Placed
	for _, x := range scans {
		for _, p := range x.Records {
			all = append(all, p)
			if q, there := last[string(p.Record.Key)]; !there || q.Record.Seq <= p.Record.Seq {
				last[string(p.Record.Key)] = p
			}
		}
	}
	return slices.DeleteFunc(all, func(p api.Placed) bool {
		return p.Record.Kind != api.RecordItem || p.Record.Seq <= flush || last[string(p.Record.Key)].Address != p.Address
	})
}

// fresh is a new store.
func fresh(t *testing.T, segments, sectors, slots int) *watched {
	t.Helper()
	d := formatted(t, segments, sectors)
	return &watched{s: recovered(t, d, slots), d: d, p: &plain{sectors: sectors, slots: slots, parts: make([]part, segments)}}
}

// again is the store behind a crash of which all that was written lives on: nothing is open.
func (w *watched) again(t *testing.T) *watched {
	t.Helper()
	w.d.Crash(all(w.d))
	w.s = recovered(t, w.d, w.p.slots)
	w.p.again()
	w.tells(t, 0)
	return w
}

// all is that all pending writes of a disk live on.
func all(d *disk.Disk) []bool {
	return slices.Repeat([]bool{true}, len(d.Pending()))
}

// name notes a key.
func (w *watched) name(key []byte) {
	if !slices.Contains(w.names, string(key)) {
		w.names = append(w.names, string(key))
	}
}

func (w *watched) put(t *testing.T, x api.Item) api.Errno {
	t.Helper()
	w.name(x.Key)
	err, asked := w.s.Put(x), w.p.put(x)
	if err != asked {
		t.Fatalf("Put of %q is error %d; asked is %d", x.Key, err, asked)
	}
	return err
}

// puts puts items, each of which must be OK.
func (w *watched) puts(t *testing.T, items ...api.Item) {
	t.Helper()
	for _, x := range items {
		is(t, w.put(t, x), api.OK)
	}
}

func (w *watched) kill(t *testing.T, key string, seq uint64) api.Errno {
	t.Helper()
	w.name([]byte(key))
	err, asked := w.s.Kill([]byte(key), seq), w.p.kill(key, seq)
	if err != asked {
		t.Fatalf("Kill(%q, %d) is error %d; asked is %d", key, seq, err, asked)
	}
	return err
}

func (w *watched) flush(t *testing.T, seq uint64) {
	t.Helper()
	is(t, w.s.Flush(seq), api.OK)
	w.p.flush = max(w.p.flush, seq)
}

// step is Step at now; what Get tells of every key at now must be the same behind it.
func (w *watched) step(t *testing.T, now uint32) (api.Cleaned, api.Errno) {
	t.Helper()
	ahead := w.hits(t, now)
	x, err := clean.Step(w.s, now)
	asked, askedErr := w.p.step(now)
	if askedErr != api.OK {
		asked = api.Cleaned{}
	}
	if x != asked || err != askedErr {
		t.Fatalf("Step at %d is %v, error %d; asked is %v, error %d", now, x, err, asked, askedErr)
	}
	w.tells(t, now)
	w.keeps(t, ahead, now)
	if err == api.OK {
		w.empty(t, x.Segment)
	}
	return x, err
}

// drop is Drop.
func (w *watched) drop(t *testing.T) (int, api.Errno) {
	t.Helper()
	x, err := clean.Drop(w.s)
	asked, askedErr := w.p.retire()
	if x != asked || err != askedErr {
		t.Fatalf("Drop is %d, error %d; asked is %d, error %d", x, err, asked, askedErr)
	}
	w.tells(t, 0)
	if err == api.OK {
		w.empty(t, x)
	}
	return x, err
}

// room is Room; if there were no Drops, what Get tells of every key at now must be the same behind it.
func (w *watched) room(t *testing.T, n int, now uint32) (api.Room, api.Errno) {
	t.Helper()
	ahead := w.hits(t, now)
	x, err := clean.Room(w.s, n, now)
	asked, askedErr := w.p.room(n, now)
	if x != asked || err != askedErr {
		t.Fatalf("Room(%d, %d) is %v, error %d; asked is %v, error %d", n, now, x, err, asked, askedErr)
	}
	w.tells(t, now)
	if x.Drops == 0 {
		w.keeps(t, ahead, now)
	}
	if frees := ring.Frees(w.s.Log().Ring()); err == api.OK && frees < n {
		t.Fatalf("behind Room(%d) %d segments are free", n, frees)
	}
	return x, err
}

// hits is what Get tells of every key, in the order of the names; a zero item is a miss.
func (w *watched) hits(t *testing.T, now uint32) []api.Item {
	t.Helper()
	return hits(t, w.s, w.names, now)
}

func hits(t *testing.T, s *store.Store, names []string, now uint32) []api.Item {
	t.Helper()
	var l []api.Item
	for _, key := range names {
		x, err := s.Get([]byte(key), now)
		if err != api.OK && err != api.ErrNone {
			t.Fatalf("Get(%q) is error %d", key, err)
		}
		if err == api.OK && !s.May([]byte(key)) {
			t.Fatalf("%q is denied", key)
		}
		l = append(l, x)
	}
	return l
}

// keeps asks for the same hits as there were ahead.
func (w *watched) keeps(t *testing.T, ahead []api.Item, now uint32) {
	t.Helper()
	for i, x := range w.hits(t, now) {
		if !same(x, ahead[i]) {
			t.Fatalf("of %q Get tells %s at %d; ahead of it it told %s", w.names[i], told(x), now, told(ahead[i]))
		}
	}
}

// empty asks for a segment that is free, and of which nothing is found.
func (w *watched) empty(t *testing.T, segment int) {
	t.Helper()
	l := w.s.Log()
	if x := l.Ring().Segs[segment]; x != (api.Seg{}) {
		t.Fatalf("segment %d is %v", segment, x)
	}
	for _, p := range w.scan(t, segment) {
		if _, err := l.Read(p.Address); w.s.Live(p) || err != api.ErrNone {
			t.Fatalf("%v is found in a free segment: live %t, error %d", p.Address, w.s.Live(p), err)
		}
	}
}

// tells holds all that is told against the words: the ring, what is known, every segment's records and entries, every key.
func (w *watched) tells(t *testing.T, now uint32) {
	t.Helper()
	known := api.Super{Segments: len(w.p.parts), Sectors: w.p.sectors, Generation: w.p.generation, Retired: w.p.retired, Flush: w.p.flush}
	if x := w.s.Log().Super().Get(); x != known {
		t.Fatalf("known is %v; asked is %v", x, known)
	}
	r := api.Ring{Sectors: w.p.sectors}
	for _, x := range w.p.parts {
		r.Segs = append(r.Segs, api.Seg{State: x.state, Generation: x.generation, Used: x.used})
	}
	if x := w.s.Log().Ring(); !ring.Same(x, r) {
		t.Fatalf("the ring is %v; asked is %v", x, r)
	}
	if n := w.p.len(); w.s.Len() != n || w.s.Left() != w.p.slots-n || w.s.Degraded() {
		t.Fatalf("Len is %d, Left %d, degraded %t; there are %d entries, %d slots", w.s.Len(), w.s.Left(), w.s.Degraded(), n, w.p.slots)
	}
	for i := range w.p.parts {
		w.stands(t, i)
	}
	for i, x := range w.hits(t, now) {
		key := w.names[i]
		if asked := w.p.get(key, now); !same(x, itemOf(asked)) {
			t.Fatalf("Get(%q, %d) is %s; asked is %s", key, now, told(x), told(itemOf(asked)))
		}
		if may := w.s.May([]byte(key)); may != w.p.may(key) {
			t.Fatalf("May(%q) is %t", key, may)
		}
	}
}

// stands holds what stands in a segment that is not free against the words.
func (w *watched) stands(t *testing.T, segment int) {
	t.Helper()
	x := w.p.parts[segment]
	if x.state == api.SegFree {
		return
	}
	l := w.scan(t, segment)
	if len(l) != len(x.cells) {
		t.Fatalf("in segment %d stand %d records; asked are %d", segment, len(l), len(x.cells))
	}
	for i, p := range l {
		c := x.cells[i]
		if p.Address != (api.Address{Segment: segment, Generation: x.generation, Sector: c.at}) || !sameRecord(p.Record, c.rec) {
			t.Fatalf("at %v stands %v; asked is %v at %d", p.Address, p.Record, c.rec, c.at)
		}
		if live := c.entry && c.rec.Seq > w.p.flush; w.s.Live(p) != live {
			t.Fatalf("%q at %v: live is %t", p.Record.Key, p.Address, !live)
		}
	}
}

// scan is what stands in a segment.
func (w *watched) scan(t *testing.T, segment int) []api.Placed {
	t.Helper()
	return scan(t, w.d, segment)
}

// scan is what stands in a segment of the disk, told by a copy of it, so that nothing is asked of the disk itself.
func scan(t *testing.T, d *disk.Disk, segment int) []api.Placed {
	t.Helper()
	c := d.Copy()
	c.Crash(all(c))
	known, err := super.Open(c)
	if err != api.OK {
		t.Fatalf("super.Open: error %d", err)
	}
	x, err := log.Scan(known, segment)
	if err != api.OK {
		t.Fatalf("log.Scan: error %d", err)
	}
	return x.Records
}

// is asks for a call's error.
func is(t *testing.T, err, want api.Errno) {
	t.Helper()
	if err != want {
		t.Fatalf("error %d; the test asks for %d", err, want)
	}
}

// steps asks for just that answer of a Step at now.
func (w *watched) steps(t *testing.T, now uint32, want api.Cleaned) {
	t.Helper()
	x, err := w.step(t, now)
	if x != want || err != api.OK {
		t.Fatalf("Step is %v, error %d; the test asks for %v", x, err, want)
	}
}

// rooms asks for just that answer of a Room at 0.
func (w *watched) rooms(t *testing.T, n int, want api.Room) {
	t.Helper()
	x, err := w.room(t, n, 0)
	if x != want || err != api.OK {
		t.Fatalf("Room(%d) is %v, error %d; the test asks for %v", n, x, err, want)
	}
}

// has asks for just these keys, of all that there were.
func (w *watched) has(t *testing.T, keys ...string) {
	t.Helper()
	var l []string
	for _, x := range w.hits(t, 0) {
		if x.Seq > 0 {
			l = append(l, string(x.Key))
		}
	}
	slices.Sort(l)
	slices.Sort(keys)
	if !slices.Equal(l, keys) {
		t.Fatalf("%q are told; the test asks for %q", l, keys)
	}
}

// item is one of that key with a value of so many bytes; its other fields are told by its sequence.
func item(key string, size int, seq uint64) api.Item {
	x := api.Item{Key: []byte(key), Flags: uint32(seq * 77), Seq: seq}
	for i := range size {
		x.Value = append(x.Value, byte(i)+byte(seq)*31+byte(len(key)))
	}
	return x
}

// sized is an item whose record has so many sectors, from 1 to 17; its key is that name, made longer where its value alone can't fill them.
func sized(name string, sectors int, seq uint64) api.Item {
	room := 48*sectors - 21
	if room-len(name) > 512 {
		return item(longer(name, min(room-512, 250)), 512, seq)
	}
	return item(name, room-len(name), seq)
}

// padded is the key of an item of that name whose record has 17 sectors.
func padded(name string) string { return longer(name, 250) }

// longer is the name, made so long.
func longer(name string, size int) string {
	return string(slices.Concat([]byte(name), bytes.Repeat([]byte("."), size-len(name))))
}

// until is the same item with that expiry.
func until(x api.Item, expiry uint32) api.Item {
	x.Expiry = expiry
	return x
}

// gone tells whether the record has expired at now.
func gone(r api.Record, now uint32) bool {
	switch r.Expiry {
	case 0:
		return false
	default:
		return now >= r.Expiry
	}
}

func sectorsOf(r api.Record) int { return (21 + len(r.Key) + len(r.Value) + 47) / 48 }

func recordOf(x api.Item) api.Record {
	return api.Record{Kind: api.RecordItem, Flags: x.Flags, Expiry: x.Expiry, Seq: x.Seq, Key: x.Key, Value: x.Value}
}

func itemOf(r api.Record) api.Item {
	return api.Item{Key: r.Key, Value: r.Value, Flags: r.Flags, Expiry: r.Expiry, Seq: r.Seq}
}

func sameRecord(a, b api.Record) bool { return a.Kind == b.Kind && same(itemOf(a), itemOf(b)) }

// same tells whether two items are; nil and empty lists are.
func same(a, b api.Item) bool {
	return bytes.Equal(a.Key, b.Key) && bytes.Equal(a.Value, b.Value) && a.Flags == b.Flags && a.Expiry == b.Expiry && a.Seq == b.Seq && a.Dirty == b.Dirty
}

// told is an item in short, for who reads why a test fails.
func told(x api.Item) string {
	return strconv.Quote(string(x.Key)) + " (" + strconv.Itoa(len(x.Value)) + " bytes, seq " + strconv.FormatUint(x.Seq, 10) + ", expiry " + strconv.FormatUint(uint64(x.Expiry), 10) + ")"
}

// drawn are numbers told by a rule, the same in every run.
type drawn struct{ last uint64 }

// below tells a number from 0 to n - 1.
func (d *drawn) below(n int) int {
	d.last = d.last*6364136223846793005 + 1442695040888963407
	return int(d.last >> 33 % uint64(n))
}
