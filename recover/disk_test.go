package recover_test

import (
	"bytes"
	"slices"
	"strings"
	"testing"

	"icehouse/api"
	"icehouse/disk"
	"icehouse/log"
	"icehouse/record"
	"icehouse/recover"
	"icehouse/ring"
	"icehouse/stamp"
	"icehouse/store"
	"icehouse/super"
)

// open asks for the store on a disk that does not fail, holds it and the report against the words, and tells them. Nothing is written; each sector is read once.
func open(t *testing.T, d *disk.Disk, slots int) (*store.Store, api.Report) {
	t.Helper()
	x, l := scansOf(t, d)
	held, pending, ops := heldBy(d), d.Pending(), d.Ops()
	s, report, err := recover.Open(d, slots)
	if s == nil || err != api.OK {
		t.Fatalf("Open is error %d", err)
	}
	if d.Ops() != ops+2+x.Segments*x.Sectors || !slices.Equal(d.Pending(), pending) || !sameHeld(heldBy(d), held) {
		t.Fatalf("Open did %d operations, and changed the disk: %t", d.Ops()-ops, !sameHeld(heldBy(d), held))
	}
	live, want, _ := judgeByWords(x, l)
	want.Left = max(0, len(live)-slots)
	want.Items -= want.Left
	if report != want {
		t.Fatalf("the report is %v; asked is %v, of %s", report, want, inShort(l))
	}
	r, _ := ringByWords(x, l)
	if y := s.Log().Ring(); !ring.Same(y, r) {
		t.Fatalf("the ring is %v; asked is %v", y, r)
	}
	if y := s.Log().Super(); y.Get() != x || y.Disk() != d || s.Degraded() {
		t.Fatalf("known is %v, of this disk: %t, degraded %t; asked is %v", y.Get(), y.Disk() == d, s.Degraded(), x)
	}
	if s.Len() != want.Items || s.Left() != slots-want.Items {
		t.Fatalf("Len is %d, Left %d, with %d slots; asked are %d entries", s.Len(), s.Left(), slots, want.Items)
	}
	holds(t, s, l, live[want.Left:])
	return s, report
}

// holds tells whether a store has just these entries, of all records that stand somewhere.
func holds(t *testing.T, s *store.Store, l []api.Scan, entries []api.Placed) {
	t.Helper()
	of := map[string]api.Placed{"nobody": {}}
	for _, x := range l {
		for _, p := range x.Records {
			of[string(p.Record.Key)] = api.Placed{}
			isEntry := func(q api.Placed) bool { return q.Address == p.Address }
			if live := slices.ContainsFunc(entries, isEntry); s.Live(p) != live {
				t.Fatalf("%q at %v: live is %t", p.Record.Key, p.Address, !live)
			}
		}
	}
	filters := map[int]map[uint32]bool{}
	for _, p := range entries {
		of[string(p.Record.Key)] = p
		if filters[p.Address.Segment] == nil {
			filters[p.Address.Segment] = map[uint32]bool{}
		}
		for _, bit := range bitsOf(string(p.Record.Key)) {
			filters[p.Address.Segment][bit] = true
		}
	}
	for key, p := range of {
		want := api.OK
		if p.Record.Seq == 0 {
			want = api.ErrNone
		}
		if x, err := s.Get([]byte(key), 0); err != want || !same(x, itemOf(p.Record)) {
			t.Fatalf("Get(%q) is %s, error %d; asked is %s, error %d", key, told(x), err, told(itemOf(p.Record)), want)
		}
		may := false
		for _, f := range filters {
			may = may || !slices.ContainsFunc(bitsOf(key), func(bit uint32) bool { return !f[bit] })
		}
		if s.May([]byte(key)) != may {
			t.Fatalf("May(%q) is %t", key, !may)
		}
	}
}

// bitsOf are the bits of a key's hash (FNV-1a) in a filter of 1024.
func bitsOf(key string) []uint32 {
	h := uint64(14695981039346656037)
	for _, b := range []byte(key) {
		h = (h ^ uint64(b)) * 1099511628211
	}
	a, b := uint32(h), uint32(h>>32)|1
	return []uint32{a % 1024, (a + b) % 1024, (a + 2*b) % 1024, (a + 3*b) % 1024}
}

// scansOf is what is known of a disk, and its scans, told by a copy of it, so that nothing is asked of the disk itself.
func scansOf(t *testing.T, d *disk.Disk) (api.Super, []api.Scan) {
	t.Helper()
	c := d.Copy()
	c.Fail(-1)
	known, err := super.Open(c)
	is(t, err, api.OK)
	var l []api.Scan
	for i := range known.Get().Segments {
		x, err := log.Scan(known, i)
		is(t, err, api.OK)
		l = append(l, x)
	}
	return known.Get(), l
}

// heldBy is what all sectors of a disk hold, whatever it is armed with, or set to fail at.
func heldBy(d *disk.Disk) []api.Block {
	c := d.Copy()
	c.Crash(all(c))
	out := make([]api.Block, c.Len())
	for i := range out {
		out[i], _ = c.Read(i)
	}
	return out
}

func sameHeld(a, b []api.Block) bool { return slices.Equal(a, b) }

// all is that all pending writes of a disk live on.
func all(d *disk.Disk) []bool {
	return slices.Repeat([]bool{true}, len(d.Pending()))
}

// crafted is a disk of just that size on which that is known, and in whose segments nothing stands.
func crafted(t *testing.T, x api.Super) *disk.Disk {
	t.Helper()
	d := empty(t, 2+x.Segments*x.Sectors)
	b, err := super.Encode(x, 6)
	is(t, err, api.OK)
	is(t, d.Write(0, b), api.OK)
	is(t, d.Sync(), api.OK)
	return d
}

// lay writes a segment's header, and records behind it.
func lay(t *testing.T, d *disk.Disk, sectors, segment int, generation uint64, l ...api.Record) {
	t.Helper()
	base := 2 + segment*sectors
	b, err := stamp.Pack(generation, 0, []byte{0, byte(segment)})
	is(t, err, api.OK)
	is(t, d.Write(base, b), api.OK)
	at := 1
	for _, r := range l {
		at += layAt(t, d, base, generation, at, r)
	}
	is(t, d.Sync(), api.OK)
}

// layAt writes a record to a sector of the segment that begins at base, and tells how many it has.
func layAt(t *testing.T, d *disk.Disk, base int, generation uint64, at int, r api.Record) int {
	t.Helper()
	b, err := record.Encode(r)
	is(t, err, api.OK)
	l, err := stamp.Split(generation, uint32(at), b)
	is(t, err, api.OK)
	for i, x := range l {
		is(t, d.Write(base+at+i, x), api.OK)
	}
	return len(l)
}

// full is a disk of four segments on which several items live.
func full(t *testing.T) *disk.Disk {
	t.Helper()
	d := crafted(t, api.Super{Segments: 4, Sectors: 24, Generation: 8, Retired: 5, Reserved: 1024, Flush: 2})
	lay(t, d, 24, 0, 7, put(0, "a", 3).Record, put(0, "b", 2).Record, put(0, "c", 5).Record)
	lay(t, d, 24, 1, 8, killed(0, "c", 6).Record, put(0, "d", 9).Record, recordOf(sized("e", 17, 10)))
	lay(t, d, 24, 2, 5, put(0, "f", 11).Record)
	lay(t, d, 24, 3, 6, put(0, "g", 4).Record, put(0, "a", 1).Record, recordOf(sized("h", 9, 7)))
	return d
}

// sized is an item whose record has so many sectors, from 1 to 17; its key is that name, made longer where its value alone can't fill them.
func sized(name string, sectors int, seq uint64) api.Item {
	room := 48*sectors - 21
	if room-len(name) > 512 {
		return item(longer(name, min(room-512, 250)), 512, seq)
	}
	return item(name, room-len(name), seq)
}

// item is one of that key with a value of so many bytes; its other fields are told by its sequence.
func item(key string, size int, seq uint64) api.Item {
	x := api.Item{Key: []byte(key), Flags: uint32(seq * 77), Seq: seq}
	for i := range size {
		x.Value = append(x.Value, byte(i)+byte(seq)*31+byte(len(key)))
	}
	return x
}

// longer is the name, made so long.
func longer(name string, size int) string {
	return name + strings.Repeat(".", size-len(name))
}

func sectorsOf(r api.Record) int { return (21 + len(r.Key) + len(r.Value) + 47) / 48 }

func recordOf(x api.Item) api.Record {
	return api.Record{Kind: api.RecordItem, Flags: x.Flags, Expiry: x.Expiry, Seq: x.Seq, Key: x.Key, Value: x.Value}
}

func itemOf(r api.Record) api.Item {
	return api.Item{Key: r.Key, Value: r.Value, Flags: r.Flags, Expiry: r.Expiry, Seq: r.Seq}
}

// same tells whether two items are; nil and empty lists are.
func same(a, b api.Item) bool {
	return bytes.Equal(a.Key, b.Key) && bytes.Equal(a.Value, b.Value) && a.Flags == b.Flags && a.Expiry == b.Expiry && a.Seq == b.Seq && a.Dirty == b.Dirty
}

// told is an item in short, for who reads why a test fails.
func told(x api.Item) string {
	return string(x.Key) + " (" + number(uint64(len(x.Value))) + " bytes, seq " + number(x.Seq) + ", expiry " + number(uint64(x.Expiry)) + ")"
}
