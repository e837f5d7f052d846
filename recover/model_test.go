package recover_test

import (
	"slices"
	"testing"

	"icehouse/api"
	"icehouse/clean"
	"icehouse/disk"
	"icehouse/recover"
	"icehouse/ring"
	"icehouse/store"
)

// cell is a record in a segment: the sector at which it stands, and whether it is its key's entry.
type cell struct {
	at    int
	rec   api.Record
	entry bool
}

// part is a segment; its keys are those of its filter.
type part struct {
	state      int
	generation uint64
	used       int
	cells      []*cell
	keys       []string
}

// plain is what the chapters 8, 9, 14, 15 and 16 say, of lists alone: it has no disk and no bytes. Pending are the disk's sectors that were written and not synced.
type plain struct {
	sectors, slots             int
	parts                      []part
	generation, retired, flush uint64
	pending                    []int
}

// rising tells the numbers of the parts that are not free, by rising generations.
func (p *plain) rising() []int {
	var l []int
	for i, x := range p.parts {
		if x.state != api.SegFree {
			l = append(l, i)
		}
	}
	slices.SortFunc(l, func(a, b int) int { return int(p.parts[a].generation) - int(p.parts[b].generation) })
	return l
}

// opened is the part that is open; -1, if none is.
func (p *plain) opened() int {
	return slices.IndexFunc(p.parts, func(x part) bool { return x.state == api.SegOpen })
}

// oldest is the sealed part of the least generation; -1, if there is none.
func (p *plain) oldest() int {
	for _, i := range p.rising() {
		if p.parts[i].state == api.SegSealed {
			return i
		}
	}
	return -1
}

func (p *plain) frees() int { return len(p.parts) - len(p.rising()) }

// turn opens the next part, if one is free.
func (p *plain) turn() api.Errno {
	if p.frees() == 0 {
		return api.ErrFull
	}
	if at := p.opened(); at >= 0 {
		p.parts[at].state = api.SegSealed
	}
	next := 0
	if l := p.rising(); len(l) > 0 {
		next = l[len(l)-1] + 1
	}
	for p.parts[next%len(p.parts)].state != api.SegFree {
		next++
	}
	p.generation++
	p.parts[next%len(p.parts)] = part{state: api.SegOpen, generation: p.generation, used: 1}
	p.pending = nil
	return api.OK
}

// append lays a record behind all others, and tells the part in which it is the last one.
func (p *plain) append(r api.Record) (*part, api.Errno) {
	need := sectorsOf(r)
	if at := p.opened(); at < 0 || p.parts[at].used+need > p.sectors {
		if err := p.turn(); err != api.OK {
			return nil, err
		}
	}
	at := p.opened()
	x := &p.parts[at]
	for i := range need {
		p.pending = append(p.pending, 2+at*p.sectors+x.used+i)
	}
	x.cells = append(x.cells, &cell{at: x.used, rec: r})
	x.used += need
	return x, api.OK
}

// enter lays an item's record, which is its key's entry from then on.
func (p *plain) enter(r api.Record, elder *cell) api.Errno {
	x, err := p.append(r)
	if err != api.OK {
		return err
	}
	if elder != nil {
		elder.entry = false
	}
	x.cells[len(x.cells)-1].entry = true
	x.keys = append(x.keys, string(r.Key))
	return api.OK
}

// cells are all records, by rising generations.
func (p *plain) cells() []*cell {
	var l []*cell
	for _, i := range p.rising() {
		l = append(l, p.parts[i].cells...)
	}
	return l
}

// entry is the key's; nil, if it has none.
func (p *plain) entry(key string) *cell {
	for _, c := range p.cells() {
		if c.entry && string(c.rec.Key) == key {
			return c
		}
	}
	return nil
}

// len is how many entries there are.
func (p *plain) len() int {
	n := 0
	for _, c := range p.cells() {
		if c.entry {
			n++
		}
	}
	return n
}

func (p *plain) put(x api.Item) api.Errno {
	elder := p.entry(string(x.Key))
	if elder == nil && p.len() >= p.slots {
		return api.ErrFull
	}
	return p.enter(recordOf(x), elder)
}

func (p *plain) kill(key string, seq uint64) api.Errno {
	elder := p.entry(key)
	if _, err := p.append(api.Record{Kind: api.RecordTomb, Seq: seq, Key: []byte(key)}); err != api.OK {
		return err
	}
	p.pending = nil
	if elder != nil {
		elder.entry = false
	}
	return api.OK
}

func (p *plain) flushTo(seq uint64) {
	if seq > p.flush {
		p.flush = seq
		p.pending = nil
	}
}

// live tells whether what stands there is an entry, and not void.
func (p *plain) live(c *cell) bool { return c.entry && c.rec.Seq > p.flush }

func (p *plain) move(c *cell) api.Errno {
	if !p.live(c) {
		return api.ErrNone
	}
	return p.enter(c.rec, c)
}

// get tells the key's record at now; the zero one, if there is none.
func (p *plain) get(key string, now uint32) api.Record {
	c := p.entry(key)
	if c == nil || !p.live(c) || gone(c.rec, now) {
		return api.Record{}
	}
	return c.rec
}

// gone tells whether the record has expired at now.
func gone(r api.Record, now uint32) bool { return r.Expiry > 0 && now >= r.Expiry }

func (p *plain) may(key string) bool {
	for _, x := range p.parts {
		has := map[uint32]bool{}
		for _, k := range x.keys {
			for _, bit := range bitsOf(k) {
				has[bit] = true
			}
		}
		if !slices.ContainsFunc(bitsOf(key), func(bit uint32) bool { return !has[bit] }) {
			return true
		}
	}
	return false
}

// retire makes a part free, if it is the oldest. Whatever is said of it, all that is pending is safe then.
func (p *plain) retire(at int) api.Errno {
	if at < 0 || at >= len(p.parts) {
		return api.ErrArg
	}
	p.pending = nil
	if at != p.oldest() {
		return api.ErrState
	}
	p.retired = p.parts[at].generation
	p.parts[at] = part{}
	return api.OK
}

// step is clean.Step; beside ErrFull it tells how many were moved by then.
func (p *plain) step(now uint32) (api.Cleaned, api.Errno) {
	at := p.oldest()
	if at < 0 {
		return api.Cleaned{}, api.ErrNone
	}
	out := api.Cleaned{Segment: at}
	for _, c := range p.parts[at].cells {
		if !p.live(c) || gone(c.rec, now) {
			out.Left++
			continue
		}
		if err := p.move(c); err != api.OK {
			return api.Cleaned{Moved: out.Moved}, err
		}
		out.Moved++
	}
	return out, p.retire(at)
}

// room is clean.Room of a count that there may be.
func (p *plain) room(n int, now uint32) api.Room {
	var out api.Room
	full := false
	for p.frees() < n {
		if full || out.Steps == 2*len(p.parts) {
			p.retire(p.oldest())
			out.Drops++
			continue
		}
		c, err := p.step(now)
		full = err == api.ErrFull
		if !full {
			out.Steps++
		}
		out.Moved += c.Moved
	}
	return out
}

// crash is what is there behind a crash in which of what was pending those sectors lived on: of each segment all up to the first record that is not whole. It tells the report.
func (p *plain) crash(keep []bool) api.Report {
	lost := map[int]bool{}
	for i, at := range p.pending {
		lost[at] = i >= len(keep) || !keep[i]
	}
	p.pending = nil
	var report api.Report
	for _, i := range p.rising() {
		x := &p.parts[i]
		report.Segments++
		x.state, x.keys = api.SegSealed, nil
		whole := slices.IndexFunc(x.cells, func(c *cell) bool {
			for k := range sectorsOf(c.rec) {
				if lost[2+i*p.sectors+c.at+k] {
					return true
				}
			}
			return false
		})
		if whole >= 0 {
			x.used = x.cells[whole].at
			x.cells = x.cells[:whole]
		}
	}
	p.judge(&report)
	return report
}

// judge makes entries of the items that live, as many as there are slots for.
func (p *plain) judge(report *api.Report) {
	all := p.cells()
	last := map[string]*cell{}
	for _, c := range all {
		key := string(c.rec.Key)
		if last[key] == nil || last[key].rec.Seq <= c.rec.Seq {
			last[key] = c
		}
	}
	left := p.slots
	for _, c := range slices.Backward(all) {
		c.entry = false
		switch lives := last[string(c.rec.Key)] == c && c.rec.Seq > p.flush; {
		case c.rec.Kind == api.RecordTomb:
			report.Tombs++
		case !lives:
			report.Gone++
		case left == 0:
			report.Left++
		default:
			c.entry = true
			left--
			report.Items++
		}
	}
	for i := range p.parts {
		x := &p.parts[i]
		for _, c := range x.cells {
			if c.entry {
				x.keys = append(x.keys, string(c.rec.Key))
			}
		}
	}
}

// watched is a store, its disk, and what it should be.
type watched struct {
	s     *store.Store
	d     *disk.Disk
	p     *plain
	names []string // all keys that were put, or killed
}

// fresh is the store of a disk that was formatted.
func fresh(t *testing.T, segments, sectors, slots int) *watched {
	t.Helper()
	d := empty(t, 2+segments*sectors)
	s, err := recover.Format(d, free(segments, sectors), slots)
	is(t, err, api.OK)
	w := &watched{s: s, d: d, p: &plain{sectors: sectors, slots: slots, parts: make([]part, segments)}}
	w.tells(t, 0)
	return w
}

// crash is the store behind a crash in which those of the pending writes live on.
func (w *watched) crash(t *testing.T, keep []bool) api.Report {
	t.Helper()
	w.d.Crash(keep)
	s, report := open(t, w.d, w.p.slots)
	if asked := w.p.crash(keep); report != asked {
		t.Fatalf("behind a crash the report is %v; asked is %v", report, asked)
	}
	w.s = s
	w.tells(t, 0)
	return report
}

// name notes a key.
func (w *watched) name(key []byte) {
	if !slices.Contains(w.names, string(key)) {
		w.names = append(w.names, string(key))
	}
}

func (w *watched) put(t *testing.T, x api.Item) api.Errno {
	t.Helper()
	w.name(x.Key)
	err, asked := w.s.Put(x), w.p.put(x)
	if err != asked {
		t.Fatalf("Put of %s is error %d; asked is %d", told(x), err, asked)
	}
	return err
}

func (w *watched) kill(t *testing.T, key string, seq uint64) api.Errno {
	t.Helper()
	w.name([]byte(key))
	err, asked := w.s.Kill([]byte(key), seq), w.p.kill(key, seq)
	if err != asked {
		t.Fatalf("Kill(%q, %d) is error %d; asked is %d", key, seq, err, asked)
	}
	return err
}

func (w *watched) flush(t *testing.T, seq uint64) {
	t.Helper()
	is(t, w.s.Flush(seq), api.OK)
	w.p.flushTo(seq)
}

func (w *watched) sync(t *testing.T) {
	t.Helper()
	is(t, w.s.Sync(), api.OK)
	w.p.pending = nil
}

// move moves the record of that number, of all that stand in a segment.
func (w *watched) move(t *testing.T, segment, n int) api.Errno {
	t.Helper()
	x := w.p.parts[segment]
	c := x.cells[n]
	p := api.Placed{Address: api.Address{Segment: segment, Generation: x.generation, Sector: c.at}, Record: c.rec}
	err, asked := w.s.Move(p), api.ErrNone
	if c.rec.Kind == api.RecordItem {
		asked = w.p.move(c)
	}
	if err != asked {
		t.Fatalf("Move of %v is error %d; asked is %d", p, err, asked)
	}
	return err
}

func (w *watched) retire(t *testing.T, segment int) api.Errno {
	t.Helper()
	err, asked := w.s.Retire(segment), w.p.retire(segment)
	if err != asked {
		t.Fatalf("Retire(%d) is error %d; asked is %d", segment, err, asked)
	}
	return err
}

func (w *watched) step(t *testing.T, now uint32) api.Errno {
	t.Helper()
	x, err := clean.Step(w.s, now)
	asked, askedErr := w.p.step(now)
	if askedErr != api.OK {
		asked = api.Cleaned{}
	}
	if x != asked || err != askedErr {
		t.Fatalf("Step at %d is %v, error %d; asked is %v, error %d", now, x, err, asked, askedErr)
	}
	return err
}

func (w *watched) room(t *testing.T, n int, now uint32) {
	t.Helper()
	x, err := clean.Room(w.s, n, now)
	if asked := w.p.room(n, now); x != asked || err != api.OK {
		t.Fatalf("Room(%d, %d) is %v, error %d; asked is %v", n, now, x, err, asked)
	}
}

// tells holds all that is told against the words: the ring, what is known, what is pending, every segment's entries, every key.
func (w *watched) tells(t *testing.T, now uint32) {
	t.Helper()
	known := api.Super{Segments: len(w.p.parts), Sectors: w.p.sectors, Generation: w.p.generation, Retired: w.p.retired, Flush: w.p.flush}
	if x := w.s.Log().Super().Get(); x != known {
		t.Fatalf("known is %v; asked is %v", x, known)
	}
	r := api.Ring{Sectors: w.p.sectors}
	for i, x := range w.p.parts {
		r.Segs = append(r.Segs, api.Seg{State: x.state, Generation: x.generation, Used: x.used})
		for _, c := range x.cells {
			p := api.Placed{Address: api.Address{Segment: i, Generation: x.generation, Sector: c.at}, Record: c.rec}
			if live := w.p.live(c); w.s.Live(p) != live {
				t.Fatalf("%q at %v: live is %t", c.rec.Key, p.Address, !live)
			}
		}
	}
	if x := w.s.Log().Ring(); !ring.Same(x, r) {
		t.Fatalf("the ring is %v; asked is %v", x, r)
	}
	if x := w.d.Pending(); !slices.Equal(x, w.p.pending) {
		t.Fatalf("%v are pending; asked are %v", x, w.p.pending)
	}
	if n := w.p.len(); w.s.Len() != n || w.s.Left() != w.p.slots-n || w.s.Degraded() {
		t.Fatalf("Len is %d, Left %d, degraded %t; there are %d entries, %d slots", w.s.Len(), w.s.Left(), w.s.Degraded(), n, w.p.slots)
	}
	for _, key := range w.names {
		asked, want := w.p.get(key, now), api.OK
		if asked.Seq == 0 {
			want = api.ErrNone
		}
		if x, err := w.s.Get([]byte(key), now); err != want || !same(x, itemOf(asked)) {
			t.Fatalf("Get(%q, %d) is %s, error %d; asked is %s, error %d", key, now, told(x), err, told(itemOf(asked)), want)
		}
		if may := w.s.May([]byte(key)); may != w.p.may(key) {
			t.Fatalf("May(%q) is %t", key, may)
		}
	}
}
