package store_test

import (
	"bytes"
	"math"
	"slices"
	"strconv"
	"testing"

	"icehouse/api"
	"icehouse/disk"
	"icehouse/log"
	"icehouse/ring"
	"icehouse/store"
	"icehouse/super"
)

// kin are keys of one finger; strange has that of the empty key.
var kin = []string{"nihh", "tcgpub", "osbmke", "hhopwe"}

const strange = "wntdene"

// hashOf is FNV-1a.
func hashOf(key string) uint64 {
	h := uint64(14695981039346656037)
	for _, b := range []byte(key) {
		h = (h ^ uint64(b)) * 1099511628211
	}
	return h
}

// fingerOf is the highest 32 bits of the hash.
func fingerOf(key string) uint32 { return uint32(hashOf(key) >> 32) }

// bitsOf are the bits of a key's hash in a filter of 1024.
func bitsOf(key string) []uint32 {
	a, b := uint32(hashOf(key)), fingerOf(key)|1
	return []uint32{a % 1024, (a + b) % 1024, (a + 2*b) % 1024, (a + 3*b) % 1024}
}

// slot is an entry of the index.
type slot struct {
	finger uint32
	at     api.Address
}

// plain is the chapter's words, over a log of its own.
type plain struct {
	log     *log.Log
	slots   int
	entries []slot // those that were added last are the last
	filters []map[uint32]bool
	unset   bool
}

func (p *plain) degraded() bool { return p.unset || p.log.Broken() }

func (p *plain) void(seq uint64) bool { return seq <= p.log.Super().Get().Flush }

// add puts an entry behind all others, and the key to the filter of its segment.
func (p *plain) add(key string, at api.Address) {
	e := slot{fingerOf(key), at}
	p.entries = append(slices.DeleteFunc(p.entries, func(o slot) bool { return o == e }), e)
	for _, bit := range bitsOf(key) {
		p.filters[at.Segment][bit] = true
	}
}

// look tells the key's entry; -1, if there is none.
func (p *plain) look(key string) (int, api.Record, api.Errno) {
	for i := len(p.entries) - 1; i >= 0; i-- {
		if p.entries[i].finger != fingerOf(key) {
			continue
		}
		r, err := p.log.Read(p.entries[i].at)
		if err == api.ErrIo || err == api.ErrDead {
			return -1, api.Record{}, err
		}
		if err == api.OK && r.Kind == 1 && string(r.Key) == key {
			return i, r, api.OK
		}
	}
	return -1, api.Record{}, api.OK
}

// turn appends a record; behind it the entry of that number is gone, if it is one.
func (p *plain) turn(i int, r api.Record) api.Errno {
	at, err := p.log.Append(r)
	if err != api.OK {
		return err
	}
	if i >= 0 {
		p.entries = slices.Delete(p.entries, i, i+1)
	}
	p.add(string(r.Key), at)
	return api.OK
}

func (p *plain) put(x api.Item) api.Errno {
	if len(x.Key) < 1 || len(x.Key) > 250 || len(x.Value) > 512 || x.Seq == 0 {
		return api.ErrItem
	}
	if p.degraded() {
		return api.ErrIo
	}
	i, _, err := p.look(string(x.Key))
	if err != api.OK {
		return err
	}
	if i < 0 && len(p.entries) >= p.slots {
		return api.ErrFull
	}
	return p.turn(i, record(x))
}

func (p *plain) get(key string, now uint32) (api.Item, api.Errno) {
	if p.degraded() {
		return api.Item{}, api.ErrNone
	}
	i, r, err := p.look(key)
	if err != api.OK {
		return api.Item{}, err
	}
	if i < 0 || p.void(r.Seq) || r.Expiry > 0 && r.Expiry <= now {
		return api.Item{}, api.ErrNone
	}
	return api.Item{Key: r.Key, Value: r.Value, Flags: r.Flags, Expiry: r.Expiry, Seq: r.Seq}, api.OK
}

func (p *plain) may(key string) bool {
	for _, f := range p.filters {
		all := true
		for _, bit := range bitsOf(key) {
			all = all && f[bit]
		}
		if all {
			return true
		}
	}
	return false
}

func (p *plain) kill(key string, seq uint64) api.Errno {
	if len(key) < 1 || len(key) > 250 || seq == 0 {
		return api.ErrRecord
	}
	if p.degraded() {
		return api.ErrIo
	}
	i, _, err := p.look(key)
	if err != api.OK {
		return err
	}
	if _, err := p.log.Append(api.Record{Kind: 2, Seq: seq, Key: []byte(key)}); err != api.OK {
		return err
	}
	if err := p.log.Sync(); err != api.OK {
		return err
	}
	if i >= 0 {
		p.entries = slices.Delete(p.entries, i, i+1)
	}
	return api.OK
}

func (p *plain) flush(seq uint64) api.Errno {
	if p.degraded() {
		return api.ErrIo
	}
	x := p.log.Super().Get()
	if seq <= x.Flush {
		return api.OK
	}
	x.Flush = seq
	err := p.log.Super().Set(x)
	p.unset = err != api.OK
	return err
}

func (p *plain) sync() api.Errno {
	if p.degraded() {
		return api.ErrIo
	}
	return p.log.Sync()
}

func (p *plain) live(x api.Placed) bool {
	return x.Record.Kind == 1 && !p.void(x.Record.Seq) && slices.Contains(p.entries, slot{fingerOf(string(x.Record.Key)), x.Address})
}

func (p *plain) move(x api.Placed) api.Errno {
	if p.degraded() {
		return api.ErrIo
	}
	if !p.live(x) {
		return api.ErrNone
	}
	return p.turn(slices.Index(p.entries, slot{fingerOf(string(x.Record.Key)), x.Address}), x.Record)
}

func (p *plain) retire(segment int) api.Errno {
	if p.degraded() {
		return api.ErrIo
	}
	if segment < 0 || segment >= len(p.filters) {
		return api.ErrArg
	}
	generation := p.log.Ring().Segs[segment].Generation
	if err := p.log.Sync(); err != api.OK {
		return err
	}
	if err := p.log.Free(segment); err != api.OK {
		return err
	}
	p.entries = slices.DeleteFunc(p.entries, func(e slot) bool { return e.at.Generation == generation })
	clear(p.filters[segment])
	return api.OK
}

// watched is a store, what it should be, and the disks of both. Whatever is handed in, and whatever is told, is spoilt behind each call, so that it shows if any of it is kept.
type watched struct {
	s     *store.Store
	p     *plain
	d, pd *disk.Disk
}

// formatted is a disk of so many segments without anything in them.
func formatted(t *testing.T, segments, sectors int) *disk.Disk {
	t.Helper()
	d, err := disk.New(2 + segments*sectors)
	if err != api.OK {
		t.Fatalf("disk.New: error %d", err)
	}
	if _, err := super.Format(d, segments, sectors); err != api.OK {
		t.Fatalf("super.Format: error %d", err)
	}
	return d
}

// logOf is the log of a disk behind a crash, and the items that live there, by the words of chapter 16.
func logOf(t *testing.T, d *disk.Disk) (*log.Log, []api.Placed) {
	t.Helper()
	s, err := super.Open(d)
	if err != api.OK {
		t.Fatalf("super.Open: error %d", err)
	}
	known := s.Get()
	r, _ := ring.New(known.Segments, known.Sectors)
	var scans []api.Scan
	for i := range r.Segs {
		x, err := log.Scan(s, i)
		if err != api.OK {
			t.Fatalf("log.Scan: error %d", err)
		}
		if x.Generation > known.Retired && x.Generation <= known.Generation {
			r.Segs[i] = api.Seg{State: api.SegSealed, Generation: x.Generation, Used: x.Used}
			scans = append(scans, x)
		}
	}
	l, err := log.Open(s, r)
	if err != api.OK {
		t.Fatalf("log.Open of %v: error %d", r, err)
	}
	slices.SortFunc(scans, func(a, b api.Scan) int { return int(a.Generation) - int(b.Generation) })
	var all []api.Placed
	for _, x := range scans {
		all = append(all, x.Records...)
	}
	return l, lastWords(all, known.Flush)
}

// lastWords are the items of which nothing is said behind them.
func lastWords(all []api.Placed, flush uint64) []api.Placed {
	var found []api.Placed
	for i, x := range all {
		outdone := slices.IndexFunc(all, func(y api.Placed) bool {
			return bytes.Equal(x.Record.Key, y.Record.Key) && y.Record.Seq > x.Record.Seq
		}) >= 0 || slices.IndexFunc(all[i+1:], func(y api.Placed) bool {
			return bytes.Equal(x.Record.Key, y.Record.Key) && y.Record.Seq == x.Record.Seq
		}) >= 0
		if x.Record.Kind == 1 && !outdone && x.Record.Seq > flush {
			found = append(found, x)
		}
	}
	return found
}

// over is the store of a disk as it is behind a crash.
func over(t *testing.T, d *disk.Disk, slots int) *watched {
	t.Helper()
	l, found := logOf(t, d)
	return with(t, d, l, slots, found)
}

// with is a store over the log, to which that was found; both disks are alike from here on.
func with(t *testing.T, d *disk.Disk, l *log.Log, slots int, found []api.Placed) *watched {
	t.Helper()
	pd := d.Copy()
	known, err := super.Open(pd)
	if err != api.OK {
		t.Fatalf("super.Open: error %d", err)
	}
	pl, err := log.Open(known, l.Ring())
	if err != api.OK {
		t.Fatalf("log.Open: error %d", err)
	}
	for d.Ops() < pd.Ops() { // the copy was read to open it
		d.Read(0)
	}
	p := &plain{log: pl, slots: slots}
	for range l.Ring().Segs {
		p.filters = append(p.filters, map[uint32]bool{})
	}
	for _, x := range found {
		p.add(string(x.Record.Key), x.Address)
	}
	handed := lentAll(found)
	s, err := store.New(l, slots, handed)
	if s == nil || err != api.OK {
		t.Fatalf("New with %d slots and %d found: error %d", slots, len(found), err)
	}
	for i, x := range handed {
		giveBackPlaced(t, x, found[i])
	}
	clear(handed)
	w := &watched{s, p, d, pd}
	w.tells(t)
	return w
}

// fresh is a new store.
func fresh(t *testing.T, segments, sectors, slots int) *watched {
	t.Helper()
	return over(t, formatted(t, segments, sectors), slots)
}

// crash is the store behind a crash of the disk, of whose pending writes those live on.
func (w *watched) crash(t *testing.T, keep []bool) *watched {
	t.Helper()
	w.d.Crash(keep)
	return over(t, w.d, w.p.slots)
}

// fail and arm set both disks.
func (w *watched) fail(n int) { w.d.Fail(n); w.pd.Fail(n) }

func (w *watched) arm(n int) { w.d.Arm(n); w.pd.Arm(n) }

// tells holds all that is told without asking the disk against the words.
func (w *watched) tells(t *testing.T) {
	t.Helper()
	n, left := w.s.Len(), w.s.Left()
	if n != len(w.p.entries) || left != w.p.slots-len(w.p.entries) {
		t.Fatalf("Len is %d, Left %d; there are %d entries, %d slots", n, left, len(w.p.entries), w.p.slots)
	}
	if x := w.s.Degraded(); x != w.p.degraded() {
		t.Fatalf("Degraded is %t", x)
	}
	a, b := w.s.Log().Ring(), w.p.log.Ring()
	if !ring.Same(a, b) || w.s.Log().Broken() != w.p.log.Broken() {
		t.Fatalf("the log's ring is %v, broken %t; asked is %v", a, w.s.Log().Broken(), b)
	}
	if a, b := w.s.Log().Super().Get(), w.p.log.Super().Get(); a != b {
		t.Fatalf("known is %v; asked is %v", a, b)
	}
	if w.d.Ops() != w.pd.Ops() || !slices.Equal(w.d.Pending(), w.pd.Pending()) || w.d.Dead() != w.pd.Dead() {
		t.Fatalf("the disk did %d operations, %v are pending; asked are %d, %v", w.d.Ops(), w.d.Pending(), w.pd.Ops(), w.pd.Pending())
	}
}

// holds tells whether both disks hold the same.
func (w *watched) holds(t *testing.T) {
	t.Helper()
	if a, b := heldBy(w.d), heldBy(w.pd); !slices.Equal(a, b) {
		t.Fatal("the disk holds something else than is asked")
	}
}

// heldBy is what all sectors of a disk hold, whatever it is armed with, or set to fail at.
func heldBy(d *disk.Disk) []api.Block {
	c := d.Copy()
	keep := make([]bool, len(c.Pending()))
	for i := range keep {
		keep[i] = true
	}
	c.Crash(keep)
	out := make([]api.Block, c.Len())
	for i := range out {
		out[i], _ = c.Read(i)
	}
	return out
}

func (w *watched) put(t *testing.T, x api.Item) api.Errno {
	t.Helper()
	handed := x
	handed.Key, handed.Value = lent(x.Key), lent(x.Value)
	err, asked := w.s.Put(handed), w.p.put(x)
	if err != asked {
		t.Fatalf("Put of %s is error %d; asked is %d", told(x), err, asked)
	}
	giveBack(t, handed.Key, x.Key)
	giveBack(t, handed.Value, x.Value)
	w.tells(t)
	return err
}

func (w *watched) get(t *testing.T, key string, now uint32) (api.Item, api.Errno) {
	t.Helper()
	handed := lent([]byte(key))
	x, err := w.s.Get(handed, now)
	asked, askedErr := w.p.get(key, now)
	if !same(x, asked) || err != askedErr {
		t.Fatalf("Get(%q, %d) is %s, error %d; asked is %s, error %d", key, now, told(x), err, told(asked), askedErr)
	}
	giveBack(t, handed, []byte(key))
	spoil(x)
	w.tells(t)
	return asked, err
}

func (w *watched) may(t *testing.T, key string) bool {
	t.Helper()
	handed := lent([]byte(key))
	x, asked := w.s.May(handed), w.p.may(key)
	if x != asked {
		t.Fatalf("May(%q) is %t", key, x)
	}
	giveBack(t, handed, []byte(key))
	w.tells(t)
	return x
}

func (w *watched) kill(t *testing.T, key string, seq uint64) api.Errno {
	t.Helper()
	handed := lent([]byte(key))
	err, asked := w.s.Kill(handed, seq), w.p.kill(key, seq)
	if err != asked {
		t.Fatalf("Kill(%q, %d) is error %d; asked is %d", key, seq, err, asked)
	}
	giveBack(t, handed, []byte(key))
	w.tells(t)
	return err
}

func (w *watched) flush(t *testing.T, seq uint64) api.Errno {
	t.Helper()
	err, asked := w.s.Flush(seq), w.p.flush(seq)
	if err != asked {
		t.Fatalf("Flush(%d) is error %d; asked is %d", seq, err, asked)
	}
	w.tells(t)
	return err
}

func (w *watched) sync(t *testing.T) api.Errno {
	t.Helper()
	err, asked := w.s.Sync(), w.p.sync()
	if err != asked {
		t.Fatalf("Sync is error %d; asked is %d", err, asked)
	}
	w.tells(t)
	return err
}

func (w *watched) live(t *testing.T, p api.Placed) bool {
	t.Helper()
	handed := lentPlaced(p)
	x, asked := w.s.Live(handed), w.p.live(p)
	if x != asked {
		t.Fatalf("Live of %v is %t", p, x)
	}
	giveBackPlaced(t, handed, p)
	w.tells(t)
	return x
}

func (w *watched) move(t *testing.T, p api.Placed) api.Errno {
	t.Helper()
	handed := lentPlaced(p)
	err, asked := w.s.Move(handed), w.p.move(p)
	if err != asked {
		t.Fatalf("Move of %v is error %d; asked is %d", p, err, asked)
	}
	giveBackPlaced(t, handed, p)
	w.tells(t)
	return err
}

func (w *watched) retire(t *testing.T, segment int) api.Errno {
	t.Helper()
	err, asked := w.s.Retire(segment), w.p.retire(segment)
	if err != asked {
		t.Fatalf("Retire(%d) is error %d; asked is %d", segment, err, asked)
	}
	w.tells(t)
	return err
}

// ok asks for a call that had no error.
func ok(t *testing.T, err api.Errno) {
	t.Helper()
	is(t, err, api.OK)
}

// is asks for a call's error.
func is(t *testing.T, err, want api.Errno) {
	t.Helper()
	if err != want {
		t.Fatalf("error %d; the test asks for %d", err, want)
	}
}

// has asks for just this item.
func (w *watched) has(t *testing.T, x api.Item) {
	t.Helper()
	x.Dirty = false
	if y, err := w.get(t, string(x.Key), 0); !same(x, y) || err != api.OK {
		t.Fatalf("Get is %s, error %d; the test asks for %s", told(y), err, told(x))
	}
	if !w.may(t, string(x.Key)) {
		t.Fatalf("May denies %s", told(x))
	}
}

// hasNone asks for nothing of the key.
func (w *watched) hasNone(t *testing.T, key string) {
	t.Helper()
	if x, err := w.get(t, key, 0); err != api.ErrNone {
		t.Fatalf("Get(%q) is %s, error %d", key, told(x), err)
	}
}

// scan is what stands in a segment, told from a copy of the disk, so that nothing is asked of it.
func (w *watched) scan(t *testing.T, segment int) []api.Placed {
	t.Helper()
	c := w.d.Copy()
	keep := make([]bool, len(c.Pending()))
	for i := range keep {
		keep[i] = true
	}
	c.Crash(keep)
	s, err := super.Open(c)
	if err != api.OK {
		t.Fatalf("super.Open: error %d", err)
	}
	x, err := log.Scan(s, segment)
	if err != api.OK {
		t.Fatalf("log.Scan: error %d", err)
	}
	if x.Generation != w.p.log.Ring().Segs[segment].Generation {
		return nil
	}
	return x.Records
}

// all is what stands in all segments.
func (w *watched) all(t *testing.T) []api.Placed {
	t.Helper()
	var l []api.Placed
	for i := range w.p.filters {
		l = append(l, w.scan(t, i)...)
	}
	return l
}

// placed is the key's record where its entry says, and no other one.
func (w *watched) placed(t *testing.T, key string) api.Placed {
	t.Helper()
	i, r, err := w.p.look(key)
	if i < 0 || err != api.OK {
		t.Fatalf("%q has no entry", key)
	}
	for w.d.Ops() < w.pd.Ops() { // that was read from one disk alone
		w.d.Read(0)
	}
	return api.Placed{Address: w.p.entries[i].at, Record: r}
}

// oldest is the sealed segment of the least generation; -1, if there is none.
func (w *watched) oldest() int {
	i, err := ring.Oldest(w.s.Log().Ring())
	if err != api.OK {
		return -1
	}
	return i
}

// clean moves what lives in the oldest segment, and retires it.
func (w *watched) clean(t *testing.T) api.Errno {
	t.Helper()
	segment := w.oldest()
	for _, p := range w.scan(t, segment) {
		if w.live(t, p) {
			if err := w.move(t, p); err != api.OK {
				return err
			}
		}
	}
	return w.retire(t, segment)
}

// item is one of that key with a value of so many bytes; all its fields but the expiry are told by its sequence.
func item(key string, size int, seq uint64) api.Item {
	x := api.Item{Key: []byte(key), Flags: uint32(seq * 77), Seq: seq, Dirty: seq%3 > 0}
	for i := range size {
		x.Value = append(x.Value, byte(i)+byte(seq)*31+byte(len(key)))
	}
	return x
}

// sized is an item whose record has so many sectors, from 1 to 17.
func sized(key string, sectors int, seq uint64) api.Item {
	size := 48*sectors - 21 - len(key)
	if size > 512 {
		key = string(slices.Concat([]byte(key), bytes.Repeat([]byte("."), min(size-512, 250-len(key)))))
		size = 512
	}
	return item(key, size, seq)
}

// until is the same item with that expiry.
func until(x api.Item, expiry uint32) api.Item {
	x.Expiry = expiry
	return x
}

// record is an item's record.
func record(x api.Item) api.Record {
	return api.Record{Kind: 1, Flags: x.Flags, Expiry: x.Expiry, Seq: x.Seq, Key: x.Key, Value: x.Value}
}

// at is an item's record, placed there.
func at(segment int, generation uint64, sector int, x api.Item) api.Placed {
	return api.Placed{Address: api.Address{Segment: segment, Generation: generation, Sector: sector}, Record: record(x)}
}

// tomb is a tombstone, placed there.
func tomb(a api.Address, key string, seq uint64) api.Placed {
	return api.Placed{Address: a, Record: api.Record{Kind: 2, Seq: seq, Key: []byte(key)}}
}

// same tells whether two items are; nil and empty lists are.
func same(a, b api.Item) bool {
	return bytes.Equal(a.Key, b.Key) && bytes.Equal(a.Value, b.Value) && a.Flags == b.Flags && a.Expiry == b.Expiry && a.Seq == b.Seq && a.Dirty == b.Dirty
}

// told is an item in short, for who reads why a test fails.
func told(x api.Item) string {
	return strconv.Quote(string(x.Key)) + " (" + strconv.Itoa(len(x.Value)) + " bytes, seq " + strconv.FormatUint(x.Seq, 10) + ", expiry " + strconv.FormatUint(uint64(x.Expiry), 10) + ", dirty " + strconv.FormatBool(x.Dirty) + ")"
}

// behind is what stands in the room behind a lent list's end.
var behind = []byte("not yours to touch")

// lent is the same bytes, with room behind their end; nil stays nil.
func lent(b []byte) []byte {
	if b == nil {
		return nil
	}
	return slices.Concat(b, behind)[:len(b)]
}

func lentPlaced(p api.Placed) api.Placed {
	p.Record.Key, p.Record.Value = lent(p.Record.Key), lent(p.Record.Value)
	return p
}

func lentAll(l []api.Placed) []api.Placed {
	var out []api.Placed
	for _, p := range l {
		out = append(out, lentPlaced(p))
	}
	return out
}

// giveBack tells whether lent bytes are as they were, and spoils them.
func giveBack(t *testing.T, handed, was []byte) {
	t.Helper()
	if handed == nil {
		return
	}
	if all := handed[:len(handed)+len(behind)]; !bytes.Equal(all, slices.Concat(was, behind)) {
		t.Fatalf("%q was handed in, and is %q now", was, all)
	}
	turn(handed)
}

func giveBackPlaced(t *testing.T, handed, was api.Placed) {
	t.Helper()
	giveBack(t, handed.Record.Key, was.Record.Key)
	giveBack(t, handed.Record.Value, was.Record.Value)
}

// spoil changes all bytes that were told.
func spoil(x api.Item) {
	turn(x.Key)
	turn(x.Value)
}

// turn changes each byte of the list, and of the room behind it.
func turn(b []byte) {
	b = b[:cap(b)]
	for i := range b {
		b[i] ^= 0x5A
	}
}

// outside are numbers that no segment has, if there are so many.
func outside(segments int) []int {
	return []int{math.MinInt, math.MinInt32, -segments, -2, -1, segments, segments + 1, 2 * segments, 1 << 16, math.MaxInt32, 1 << 32, math.MaxInt}
}

// drawn are numbers told by a rule, the same in every run.
type drawn struct{ last uint64 }

// below tells a number from 0 to n - 1.
func (d *drawn) below(n int) int {
	d.last = d.last*6364136223846793005 + 1442695040888963407
	return int(d.last >> 33 % uint64(n))
}
