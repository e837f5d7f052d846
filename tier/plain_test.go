package tier_test

import (
	"slices"

	"icehouse/api"
)

// held is an item in memory, the page in which it lies, and when it was put or touched last.
type held struct {
	api.Item
	class, page, when int
}

// memory is what the chapters 11 to 13 say, of a list of items, in no order.
type memory struct {
	pages, deeds int
	there        []held
}

// sizes and chunks are those of the classes.
var (
	sizes  = []int{32, 64, 96, 144, 216, 324, 486, 1024}
	chunks = []int{32, 16, 10, 7, 4, 3, 2, 1}
)

// chargeOf is what an item is charged for.
func chargeOf(x api.Item) int { return 24 + len(x.Key) + len(x.Value) }

func (m *memory) now() int {
	m.deeds++
	return m.deeds
}

// at is the key's place in the list; -1, if it has none.
func (m *memory) at(key string) int {
	return slices.IndexFunc(m.there, func(e held) bool { return string(e.Key) == key })
}

func (m *memory) get(key string) (api.Item, bool) {
	i := m.at(key)
	if i < 0 {
		return api.Item{}, false
	}
	m.there[i].when = m.now()
	return m.there[i].Item, true
}

func (m *memory) takeOut(i int) api.Item {
	x := m.there[i].Item
	m.there = slices.Delete(m.there, i, i+1)
	return x
}

// room is the page that has room for the class; -1, if none has.
func (m *memory) room(class int) int {
	used, of := make([]int, m.pages), make([]int, m.pages)
	for _, e := range m.there {
		used[e.page]++
		of[e.page] = e.class
	}
	for page, n := range used {
		if n > 0 && of[page] == class && n < chunks[class] {
			return page
		}
	}
	return slices.Index(used, 0)
}

// oldest is the oldest item of the class; -1, if there is none.
func (m *memory) oldest(class int) int {
	at := -1
	for i, e := range m.there {
		if e.class == class && (at < 0 || e.when < m.there[at].when) {
			at = i
		}
	}
	return at
}

func (m *memory) put(x api.Item) []api.Item {
	m.remove(string(x.Key))
	class := slices.IndexFunc(sizes, func(size int) bool { return chargeOf(x) <= size })
	var out []api.Item
	for m.room(class) < 0 {
		at := m.oldest(class)
		for least := 0; at < 0; least++ {
			at = m.oldest(least)
		}
		out = append(out, m.takeOut(at))
	}
	x.Key, x.Value = own(x.Key), own(x.Value)
	m.there = append(m.there, held{x, class, m.room(class), m.now()})
	return out
}

func (m *memory) remove(key string) {
	if i := m.at(key); i >= 0 {
		m.takeOut(i)
	}
}

func (m *memory) clean(key string) {
	if i := m.at(key); i >= 0 {
		m.there[i].Dirty = false
	}
}

func (m *memory) clear() { m.there = nil }

func (m *memory) charge() int {
	n := 0
	for _, e := range m.there {
		n += chargeOf(e.Item)
	}
	return n
}

func (m *memory) all() []api.Item {
	l := slices.Clone(m.there)
	slices.SortFunc(l, func(a, b held) int {
		if a.class != b.class {
			return a.class - b.class
		}
		return b.when - a.when
	})
	var all []api.Item
	for _, e := range l {
		all = append(all, e.Item)
	}
	return all
}

// cell is a record in a segment: the sector at which it stands, and whether it is its key's entry.
type cell struct {
	at    int
	rec   api.Record
	entry bool
}

// part is a segment; its keys are those of its filter.
type part struct {
	state      int
	generation uint64
	used       int
	cells      []*cell
	keys       []string
}

// ice is what the chapters 7 to 9 and 14 to 16 say, of lists alone: it has no disk and no bytes. Pending are the disk's sectors that were written and not synced.
type ice struct {
	sectors, slots              int
	parts                       []part
	generation, retired, voided uint64
	given                       uint64 // all sequences up to this one were reserved
	pending                     []int
	steps, drops                int // of the cleaner, ever
}

// rising tells the numbers of the parts that are not free, by rising generations.
func (p *ice) rising() []int {
	var l []int
	for i, x := range p.parts {
		if x.state != api.SegFree {
			l = append(l, i)
		}
	}
	slices.SortFunc(l, func(a, b int) int { return int(p.parts[a].generation) - int(p.parts[b].generation) })
	return l
}

// opened is the part that is open; -1, if none is.
func (p *ice) opened() int {
	return slices.IndexFunc(p.parts, func(x part) bool { return x.state == api.SegOpen })
}

// oldest is the sealed part of the least generation; -1, if there is none.
func (p *ice) oldest() int {
	for _, i := range p.rising() {
		if p.parts[i].state == api.SegSealed {
			return i
		}
	}
	return -1
}

func (p *ice) frees() int { return len(p.parts) - len(p.rising()) }

// turn opens the next part, if one is free.
func (p *ice) turn() api.Errno {
	if p.frees() == 0 {
		return api.ErrFull
	}
	if at := p.opened(); at >= 0 {
		p.parts[at].state = api.SegSealed
	}
	next := 0
	if l := p.rising(); len(l) > 0 {
		next = l[len(l)-1] + 1
	}
	for p.parts[next%len(p.parts)].state != api.SegFree {
		next++
	}
	p.generation++
	p.parts[next%len(p.parts)] = part{state: api.SegOpen, generation: p.generation, used: 1}
	p.pending = nil
	return api.OK
}

// append lays a record behind all others, and tells the part in which it is the last one.
func (p *ice) append(r api.Record) (*part, api.Errno) {
	need := sectorsOf(r)
	if at := p.opened(); at < 0 || p.parts[at].used+need > p.sectors {
		if err := p.turn(); err != api.OK {
			return nil, err
		}
	}
	at := p.opened()
	x := &p.parts[at]
	for i := range need {
		p.pending = append(p.pending, 2+at*p.sectors+x.used+i)
	}
	x.cells = append(x.cells, &cell{at: x.used, rec: r})
	x.used += need
	return x, api.OK
}

// sectorsOf is how many sectors a record has.
func sectorsOf(r api.Record) int { return (21 + len(r.Key) + len(r.Value) + 47) / 48 }

// enter lays an item's record, which is its key's entry from then on.
func (p *ice) enter(r api.Record, elder *cell) api.Errno {
	x, err := p.append(r)
	if err != api.OK {
		return err
	}
	if elder != nil {
		elder.entry = false
	}
	x.cells[len(x.cells)-1].entry = true
	x.keys = append(x.keys, string(r.Key))
	return api.OK
}

// cells are all records, by rising generations.
func (p *ice) cells() []*cell {
	var l []*cell
	for _, i := range p.rising() {
		l = append(l, p.parts[i].cells...)
	}
	return l
}

// entry is the key's; nil, if it has none.
func (p *ice) entry(key string) *cell {
	for _, c := range p.cells() {
		if c.entry && string(c.rec.Key) == key {
			return c
		}
	}
	return nil
}

func (p *ice) len() int {
	n := 0
	for _, c := range p.cells() {
		if c.entry {
			n++
		}
	}
	return n
}

func (p *ice) put(x api.Item) api.Errno {
	elder := p.entry(string(x.Key))
	if elder == nil && p.len() >= p.slots {
		return api.ErrFull
	}
	return p.enter(api.Record{Kind: 1, Flags: x.Flags, Expiry: x.Expiry, Seq: x.Seq, Key: own(x.Key), Value: own(x.Value)}, elder)
}

func (p *ice) kill(key string, seq uint64) api.Errno {
	elder := p.entry(key)
	if _, err := p.append(api.Record{Kind: 2, Seq: seq, Key: []byte(key)}); err != api.OK {
		return err
	}
	p.pending = nil
	if elder != nil {
		elder.entry = false
	}
	return api.OK
}

func (p *ice) flush(seq uint64) api.Errno {
	if seq > p.voided {
		p.voided = seq
		p.pending = nil
	}
	return api.OK
}

func (p *ice) sync() api.Errno {
	p.pending = nil
	return api.OK
}

func (p *ice) degraded() bool { return false }

func (p *ice) reserved() uint64 { return p.given }

func (p *ice) reserve(upTo uint64) api.Errno {
	p.given = upTo
	return p.sync()
}

// live tells whether what stands there is an entry, and not void.
func (p *ice) live(c *cell) bool { return c.entry && c.rec.Seq > p.voided }

// gone tells whether the record has expired at now.
func gone(r api.Record, now uint32) bool { return r.Expiry > 0 && now >= r.Expiry }

func (p *ice) get(key string, now uint32) (api.Item, api.Errno) {
	c := p.entry(key)
	if c == nil || !p.live(c) || gone(c.rec, now) {
		return api.Item{}, api.ErrNone
	}
	r := c.rec
	return api.Item{Key: own(r.Key), Value: own(r.Value), Flags: r.Flags, Expiry: r.Expiry, Seq: r.Seq}, api.OK
}

// bitsOf are the bits of a key's hash (FNV-1a) in a filter of 1024.
func bitsOf(key string) []uint32 {
	h := uint64(14695981039346656037)
	for _, b := range []byte(key) {
		h = (h ^ uint64(b)) * 1099511628211
	}
	a, b := uint32(h), uint32(h>>32)|1
	return []uint32{a % 1024, (a + b) % 1024, (a + 2*b) % 1024, (a + 3*b) % 1024}
}

func (p *ice) may(key string) bool {
	for _, x := range p.parts {
		has := map[uint32]bool{}
		for _, k := range x.keys {
			for _, bit := range bitsOf(k) {
				has[bit] = true
			}
		}
		if !slices.ContainsFunc(bitsOf(key), func(bit uint32) bool { return !has[bit] }) {
			return true
		}
	}
	return false
}

// retire makes the oldest part free.
func (p *ice) retire() {
	p.pending = nil
	at := p.oldest()
	p.retired = p.parts[at].generation
	p.parts[at] = part{}
}

// step is a Step of the cleaner; false, if there is no room for what lives.
func (p *ice) step(now uint32) bool {
	for _, c := range p.parts[p.oldest()].cells {
		if p.live(c) && !gone(c.rec, now) && p.enter(c.rec, c) != api.OK {
			return false
		}
	}
	p.retire()
	return true
}

func (p *ice) room(n int, now uint32) api.Errno {
	full := false
	for steps := 0; p.frees() < n; steps++ {
		if !full && steps < 2*len(p.parts) {
			full = !p.step(now)
			p.steps++
		}
		if full || steps >= 2*len(p.parts) {
			p.retire()
			p.drops++
		}
	}
	return api.OK
}

// crash is what is there behind a crash in which of what was pending those sectors lived on: of each segment all up to the first record that is not whole.
func (p *ice) crash(keep []bool) {
	lost := map[int]bool{}
	for i, at := range p.pending {
		lost[at] = i >= len(keep) || !keep[i]
	}
	p.pending = nil
	for _, i := range p.rising() {
		x := &p.parts[i]
		x.state, x.keys = api.SegSealed, nil
		whole := slices.IndexFunc(x.cells, func(c *cell) bool {
			for k := range sectorsOf(c.rec) {
				if lost[2+i*p.sectors+c.at+k] {
					return true
				}
			}
			return false
		})
		if whole >= 0 {
			x.used = x.cells[whole].at
			x.cells = x.cells[:whole]
		}
	}
	p.judge()
}

// judge makes entries of the items that live, as many as there are slots for.
func (p *ice) judge() {
	all := p.cells()
	last := map[string]*cell{}
	for _, c := range all {
		key := string(c.rec.Key)
		if last[key] == nil || last[key].rec.Seq <= c.rec.Seq {
			last[key] = c
		}
	}
	left := p.slots
	for _, c := range slices.Backward(all) {
		c.entry = last[string(c.rec.Key)] == c && c.rec.Seq > p.voided && c.rec.Kind == 1 && left > 0
		if c.entry {
			left--
		}
	}
	for i := range p.parts {
		for _, c := range p.parts[i].cells {
			if c.entry {
				p.parts[i].keys = append(p.parts[i].keys, string(c.rec.Key))
			}
		}
	}
}
