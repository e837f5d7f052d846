package tier_test

import (
	"bytes"
	"slices"
	"strconv"
	"strings"
	"testing"

	"icehouse/api"
	"icehouse/disk"
	"icehouse/recover"
	"icehouse/ring"
	"icehouse/store"
	"icehouse/tier"
)

// watched is an engine, its disk, and what it should be. Whatever is handed in, and whatever is told, is spoilt behind each command, so that it shows if any of it is kept.
type watched struct {
	x     *tier.Engine
	d     *disk.Disk
	w     *words
	m     *memory
	p     *ice
	i     *ideal   // what may be answered
	names []string // all keys that were asked for
}

// plan says how an engine is made.
type plan struct{ segments, sectors, slots, pages int }

// fresh is the engine of a new disk.
func fresh(t *testing.T, p plan) *watched {
	t.Helper()
	return reserving(t, p, 0)
}

// reserving is the engine of a disk of which all sequences up to that one were reserved.
func reserving(t *testing.T, p plan, upTo uint64) *watched {
	t.Helper()
	d, s := formatted(t, p)
	known := s.Log().Super().Get()
	known.Reserved = upTo
	is(t, s.Log().Super().Set(known), api.OK)
	m := &memory{pages: p.pages}
	i := &ice{sectors: p.sectors, slots: p.slots, parts: make([]part, p.segments), given: upTo}
	w := &watched{made(t, s, p.pages), d, &words{m, i, upTo}, m, i, newIdeal(), nil}
	w.tells(t, 0)
	return w
}

// formatted is a new disk, and its store.
func formatted(t *testing.T, p plan) (*disk.Disk, *store.Store) {
	t.Helper()
	d, err := disk.New(2 + p.segments*p.sectors)
	is(t, err, api.OK)
	s, err := recover.Format(d, api.Ring{Sectors: p.sectors, Segs: make([]api.Seg, p.segments)}, p.slots)
	is(t, err, api.OK)
	return d, s
}

// made is an engine over the store.
func made(t *testing.T, s *store.Store, pages int) *tier.Engine {
	t.Helper()
	x, err := tier.New(s, pages)
	if x == nil || err != api.OK {
		t.Fatalf("New with %d pages is an engine: %t, error %d", pages, x != nil, err)
	}
	return x
}

// do does the command, and what the words say of it, and holds the answers against each other.
func (w *watched) do(t *testing.T, q api.Request, now uint32) api.Answer {
	t.Helper()
	a := w.quick(t, q, now)
	w.tells(t, now)
	return a
}

// quick is do, but for a look at all that is there then.
func (w *watched) quick(t *testing.T, q api.Request, now uint32) api.Answer {
	t.Helper()
	w.name(q.Key)
	a := doLent(t, w.x, q, now)
	asked := w.w.do(q, now)
	if !sameAnswer(a, asked) {
		t.Fatalf("%s at %d is %s; asked is %s", wished(q), now, told(a), told(asked))
	}
	w.i.asks(t, q, a, now)
	turn(a.Value)
	return asked
}

// name notes a key that may be.
func (w *watched) name(key []byte) {
	if len(key) > 0 && len(key) <= 250 && !slices.Contains(w.names, string(key)) {
		w.names = append(w.names, string(key))
	}
}

// doLent does the command with lists that have room behind their ends, and spoils them then.
func doLent(t *testing.T, x *tier.Engine, q api.Request, now uint32) api.Answer {
	t.Helper()
	handed := q
	handed.Key, handed.Value = lent(q.Key), lent(q.Value)
	a := x.Do(handed, now)
	told := bytes.Clone(a.Value)
	giveBack(t, handed.Key, q.Key)
	giveBack(t, handed.Value, q.Value)
	if !bytes.Equal(a.Value, told) {
		t.Fatalf("%s: what is answered shares memory with what was handed in", wished(q))
	}
	return a
}

// asks does the command, and holds its answer against the one that the test asks for, too.
func (w *watched) asks(t *testing.T, q api.Request, now uint32, want api.Answer) {
	t.Helper()
	if a := w.do(t, q, now); !sameAnswer(a, want) {
		t.Fatalf("%s at %d is %s; the test asks for %s", wished(q), now, told(a), told(want))
	}
}

// oks does commands, each of which must be OK.
func (w *watched) oks(t *testing.T, now uint32, l ...api.Request) {
	t.Helper()
	for _, q := range l {
		if a := w.quick(t, q, now); a.Status != api.StatusOK {
			t.Fatalf("%s at %d is %s", wished(q), now, told(a))
		}
	}
	w.tells(t, now)
}

// clean is Clean.
func (w *watched) clean(t *testing.T, now uint32) {
	t.Helper()
	is(t, w.x.Clean(now), w.p.room(3, now))
	w.tells(t, now)
}

// sync is Sync.
func (w *watched) sync(t *testing.T) {
	t.Helper()
	is(t, w.x.Sync(), w.p.sync())
}

// crash is the engine behind a crash in which those of the pending writes live on.
func (w *watched) crash(t *testing.T, keep []bool) {
	t.Helper()
	w.d.Crash(keep)
	w.p.crash(keep)
	s, _, err := recover.Open(w.d, w.p.slots)
	is(t, err, api.OK)
	w.x = made(t, s, w.m.pages)
	w.m.clear()
	w.w.seq = w.p.given
	w.i = w.i.crashed()
	w.tells(t, 0)
}

// tells holds all that is there against the words: memory in order, the last sequence, what is known, the ring, what is pending, how many entries there are.
func (w *watched) tells(t *testing.T, now uint32) {
	t.Helper()
	all, asked := slices.Collect(w.x.Ram().All()), w.m.all()
	if !slices.EqualFunc(all, asked, sameItem) {
		t.Fatalf("the Ram has %s; asked is %s", items(all...), items(asked...))
	}
	if n := w.x.Seq(); n != w.w.seq {
		t.Fatalf("Seq is %d; asked is %d", n, w.w.seq)
	}
	known := api.Super{Segments: len(w.p.parts), Sectors: w.p.sectors, Generation: w.p.generation, Retired: w.p.retired, Reserved: w.p.given, Flush: w.p.voided}
	s := w.x.Store()
	if x := s.Log().Super().Get(); x != known {
		t.Fatalf("known is %v; asked is %v", x, known)
	}
	r := api.Ring{Sectors: w.p.sectors}
	for _, x := range w.p.parts {
		r.Segs = append(r.Segs, api.Seg{State: x.state, Generation: x.generation, Used: x.used})
	}
	if x := s.Log().Ring(); !ring.Same(x, r) {
		t.Fatalf("the ring is %v; asked is %v", x, r)
	}
	if x := w.d.Pending(); !slices.Equal(x, w.p.pending) {
		t.Fatalf("%v are pending; asked are %v", x, w.p.pending)
	}
	if n := w.p.len(); s.Len() != n || s.Left() != w.p.slots-n || s.Degraded() {
		t.Fatalf("Len is %d, Left %d, degraded %t; there are %d entries, %d slots", s.Len(), s.Left(), s.Degraded(), n, w.p.slots)
	}
}

// lies tells what the disk has of each key against the words, too.
func (w *watched) lies(t *testing.T, now uint32) {
	t.Helper()
	w.tells(t, now)
	for _, key := range w.names {
		asked, want := w.p.get(key, now)
		if x, err := w.x.Store().Get([]byte(key), now); err != want || !sameItem(x, asked) {
			t.Fatalf("the Store's Get of %q at %d is %s, error %d; asked is %s, error %d", key, now, items(x), err, items(asked), want)
		}
		if may := w.x.Store().May([]byte(key)); may != w.p.may(key) {
			t.Fatalf("May(%q) is %t", key, may)
		}
	}
}

// is asks for a call's error.
func is(t *testing.T, err, want api.Errno) {
	t.Helper()
	if err != want {
		t.Fatalf("error %d; the test asks for %d", err, want)
	}
}

// ask is a request with a key, and what else is said of it.
func ask(op int, key string, more ...func(*api.Request)) api.Request {
	q := api.Request{Op: op}
	if key != "" {
		q.Key = []byte(key)
	}
	for _, f := range more {
		f(&q)
	}
	return q
}

func value(v string) func(*api.Request) { return func(q *api.Request) { q.Value = []byte(v) } }

func flags(n uint32) func(*api.Request) { return func(q *api.Request) { q.Flags = n } }

func expiry(n uint32) func(*api.Request) { return func(q *api.Request) { q.Expiry = n } }

func cas(n uint64) func(*api.Request) { return func(q *api.Request) { q.Cas = n } }

func delta(n uint64) func(*api.Request) { return func(q *api.Request) { q.Delta = n } }

func initial(n uint64) func(*api.Request) { return func(q *api.Request) { q.Initial = n } }

func bad(n int) func(*api.Request) { return func(q *api.Request) { q.Bad = n } }

func get(key string) api.Request { return ask(api.OpGet, key) }

func set(key, v string, more ...func(*api.Request)) api.Request {
	return ask(api.OpSet, key, append([]func(*api.Request){value(v)}, more...)...)
}

func persist() api.Request { return ask(api.OpPersist, "") }

// Answers that are often asked for.
func ok(cas uint64) api.Answer { return api.Answer{Cas: cas} }

func hit(v string, flags uint32, cas uint64) api.Answer {
	return api.Answer{Value: []byte(v), Flags: flags, Cas: cas}
}

func status(n int) api.Answer { return api.Answer{Status: n} }

// sameAnswer tells whether two answers are; nil and empty lists are.
func sameAnswer(a, b api.Answer) bool {
	return a.Status == b.Status && bytes.Equal(a.Value, b.Value) && a.Flags == b.Flags && a.Cas == b.Cas &&
		a.Number == b.Number && slices.Equal(a.Stats, b.Stats) && a.Close == b.Close
}

// sameItem tells whether two items are; nil and empty lists are.
func sameItem(a, b api.Item) bool {
	return bytes.Equal(a.Key, b.Key) && bytes.Equal(a.Value, b.Value) && a.Flags == b.Flags && a.Expiry == b.Expiry && a.Seq == b.Seq && a.Dirty == b.Dirty
}

// short is a text's begin, and how long it is.
func short(b []byte) string {
	if len(b) <= 24 {
		return strconv.Quote(string(b))
	}
	return strconv.Quote(string(b[:8])) + ".. of " + strconv.Itoa(len(b)) + " bytes"
}

func number(n uint64) string { return strconv.FormatUint(n, 10) }

// wished, told and items are requests, answers and items in short, for who reads why a test fails.
func wished(q api.Request) string {
	return "[op " + strconv.Itoa(q.Op) + " key " + short(q.Key) + " value " + short(q.Value) + " flags " + number(uint64(q.Flags)) + " expiry " + number(uint64(q.Expiry)) +
		" cas " + number(q.Cas) + " delta " + number(q.Delta) + " initial " + number(q.Initial) + " bad " + strconv.Itoa(q.Bad) + "]"
}

func told(a api.Answer) string {
	s := "[status " + strconv.Itoa(a.Status) + " value " + short(a.Value) + " flags " + number(uint64(a.Flags)) + " cas " + number(a.Cas) + " number " + number(a.Number)
	for _, x := range a.Stats {
		s += " " + x.Name + " " + x.Value
	}
	return s + " close " + strconv.FormatBool(a.Close) + "]"
}

func items(l ...api.Item) string {
	var b strings.Builder
	for _, x := range l {
		b.WriteString("[" + short(x.Key) + " " + short(x.Value) + " flags " + number(uint64(x.Flags)) + " expiry " + number(uint64(x.Expiry)) + " seq " + number(x.Seq) + " dirty " + strconv.FormatBool(x.Dirty) + "]")
	}
	return "(" + b.String() + ")"
}

// behind is what stands in the room behind a lent list's end.
var behind = []byte("not yours to touch")

// lent is the same bytes, with room behind their end; nil stays nil.
func lent(b []byte) []byte {
	if b == nil {
		return nil
	}
	return slices.Concat(b, behind)[:len(b)]
}

// giveBack tells whether lent bytes are as they were, and spoils them.
func giveBack(t *testing.T, handed, was []byte) {
	t.Helper()
	if was == nil {
		return
	}
	if all := handed[:len(handed)+len(behind)]; !bytes.Equal(all, slices.Concat(was, behind)) {
		t.Fatalf("%q was handed in, and is %q now", was, all)
	}
	turn(handed)
}

// turn changes each byte of the list, and of the room behind it.
func turn(b []byte) {
	b = b[:cap(b)]
	for i := range b {
		b[i] ^= 0x5A
	}
}

// drawn are numbers told by a rule, the same in every run.
type drawn struct{ last uint64 }

// below tells a number from 0 to n - 1.
func (d *drawn) below(n int) int {
	d.last = d.last*6364136223846793005 + 1442695040888963407
	return int(d.last >> 33 % uint64(n))
}

// all is that all pending writes of a disk live on.
func all(d *disk.Disk) []bool { return slices.Repeat([]bool{true}, len(d.Pending())) }
