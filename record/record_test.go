package record_test

import (
	"bytes"
	"math"
	"testing"

	"icehouse/api"
	"icehouse/record"
)

// raw is a head of just those numbers, be it right or not, and what stands behind it.
func raw(kind byte, flags, expiry uint32, seq uint64, key, value uint16, behind ...byte) []byte {
	out := []byte{kind}
	lay := func(x uint64, count int) {
		for i := range count {
			out = append(out, byte(x>>(8*(count-1-i))))
		}
	}
	lay(uint64(flags), 4)
	lay(uint64(expiry), 4)
	lay(seq, 8)
	lay(uint64(key), 2)
	lay(uint64(value), 2)
	return append(out, behind...)
}

// run is n bytes, none of them a nought, and most of them unlike their neighbours; from says which is the first.
func run(from, n int) []byte {
	out := make([]byte, n)
	for i := range out {
		out[i] = byte((from+i)%251 + 1)
	}
	return out
}

// item is an item of a key and a value of so many bytes.
func item(key, value int) api.Record {
	return api.Record{Kind: 1, Flags: 0x01020304, Expiry: 0x05060708, Seq: 0x1112131415161718, Key: run(0, key), Value: run(100, value)}
}

// tomb is a tombstone of a key of so many bytes.
func tomb(key int) api.Record {
	return api.Record{Kind: 2, Seq: 0x2122232425262728, Key: run(50, key)}
}

// like tells whether both are the same, as the words say it.
func like(a, b api.Record) bool {
	return a.Kind == b.Kind && a.Flags == b.Flags && a.Expiry == b.Expiry && a.Seq == b.Seq && string(a.Key) == string(b.Key) && string(a.Value) == string(b.Value)
}

// mayBe tells whether a record may be, as the words say it.
func mayBe(r api.Record) bool {
	if r.Kind == 2 && (r.Flags > 0 || r.Expiry > 0 || len(r.Value) > 0) {
		return false
	}
	return (r.Kind == 1 || r.Kind == 2) && r.Seq > 0 && len(r.Key) >= 1 && len(r.Key) <= 250 && len(r.Value) <= 512
}

// grid is records of all edges that the words name, and of those beside them, each with each.
func grid(each func(r api.Record)) {
	kinds := []int{math.MinInt, -255, -254, -2, -1, 0, 1, 2, 3, 4, 255, 256, 257, 258, 1<<16 + 1, 1<<32 + 2, math.MaxInt}
	numbers := []uint32{0, 1, math.MaxUint32}
	for _, kind := range kinds {
		for _, seq := range []uint64{0, 1, 1 << 32, math.MaxUint64} {
			for _, key := range []int{0, 1, 250, 251, 256, 257, 1<<16 + 1} {
				for _, value := range []int{0, 1, 512, 513, 1 << 16, 1<<16 + 1} {
					r := api.Record{Kind: kind, Seq: seq, Key: long[:key], Value: long[:value]}
					for _, r.Flags = range numbers {
						for _, r.Expiry = range numbers {
							each(r)
						}
					}
				}
			}
		}
	}
}

// long is as many bytes as the grid's longest lists.
var long = run(7, 1<<16+1)

// small is the chapter's item of a and xy.
func small() api.Record {
	return api.Record{Kind: 1, Seq: 1, Key: []byte("a"), Value: []byte("xy")}
}

// P6.1 to P6.3: the chapter's examples.
func TestExamples(t *testing.T) {
	want := []byte{0: 1, 16: 1, 18: 1, 20: 2, 21: 'a', 22: 'x', 23: 'y'}
	encodes(t, small(), want)
	if len(want) != 24 {
		t.Errorf("%d bytes", len(want))
	}
	decodes(t, append(bytes.Clone(want), 0xFF), small(), 24)
	undecoded(t, want[:23], api.ErrShort)
	undecoded(t, want[:20], api.ErrShort)
	for _, r := range []api.Record{
		{Kind: 3, Seq: 1, Key: []byte("a")},
		{Kind: 1, Seq: 0, Key: []byte("a")},
		{Kind: 2, Flags: 1, Seq: 1, Key: []byte("a")},
		{Kind: 1, Seq: 1, Key: make([]byte, 251)},
	} {
		refused(t, r)
	}
	sized(t, api.Record{Kind: 1, Seq: 1, Key: make([]byte, 250), Value: make([]byte, 512)}, 783, 17)
	sized(t, api.Record{Kind: 1, Seq: 1, Key: []byte("a")}, 22, 1)
}

// checks fails, unless Check answers that error.
func checks(t *testing.T, r api.Record, want api.Errno) {
	t.Helper()
	if got := record.Check(r); got != want {
		t.Errorf("Check of kind %d, flags %d, expiry %d, seq %d, %d bytes, %d bytes: %d, not %d", r.Kind, r.Flags, r.Expiry, r.Seq, len(r.Key), len(r.Value), got, want)
	}
}

// P6.1: each field at its edges and beside them, by itself.
func TestCheckByFields(t *testing.T) {
	checks(t, item(1, 0), api.OK)
	checks(t, tomb(1), api.OK)
	checks(t, api.Record{}, api.ErrRecord)
	for _, kind := range []int{math.MinInt, -256, -255, -254, -2, -1, 0, 3, 4, 255, 256, 257, 258, math.MaxInt} {
		for _, r := range []api.Record{item(1, 1), item(1, 0), tomb(1)} {
			r.Kind = kind
			checks(t, r, api.ErrRecord)
		}
	}
	for key, want := range map[int]api.Errno{0: api.ErrRecord, 1: api.OK, 249: api.OK, 250: api.OK, 251: api.ErrRecord, 257: api.ErrRecord, 1<<16 + 1: api.ErrRecord} {
		checks(t, item(key, 5), want)
		checks(t, tomb(key), want)
	}
	for value, want := range map[int]api.Errno{0: api.OK, 1: api.OK, 511: api.OK, 512: api.OK, 513: api.ErrRecord, 1 << 16: api.ErrRecord} {
		checks(t, item(5, value), want)
	}
	for _, seq := range []uint64{1, 2, 1 << 31, 1 << 32, 1 << 63, math.MaxUint64} {
		for _, r := range []api.Record{item(1, 1), tomb(1)} {
			r.Seq = seq
			checks(t, r, api.OK)
			r.Seq = 0
			checks(t, r, api.ErrRecord)
		}
	}
}

// P6.1: flags and expiry are an item's alone, and so is a value.
func TestCheckOfFlagsExpiryAndValue(t *testing.T) {
	for _, x := range []uint32{1, 2, 1 << 8, 1 << 16, 1 << 31, math.MaxUint32} {
		for _, l := range [][2]uint32{{x, 0}, {0, x}, {x, x}, {0, 0}} {
			i, d, want := item(3, 0), tomb(3), api.ErrRecord
			i.Flags, i.Expiry = l[0], l[1]
			d.Flags, d.Expiry = l[0], l[1]
			if l == [2]uint32{} {
				want = api.OK
			}
			checks(t, i, api.OK)
			checks(t, d, want)
		}
	}
	for _, n := range []int{0, 1, 2, 256, 512, 513} {
		d, want := tomb(3), api.ErrRecord
		d.Value = make([]byte, n)
		if n == 0 {
			want = api.OK
		}
		checks(t, d, want)
	}
}

// P6.1, P6.2: all edges, each with each.
func TestCheckOfGrid(t *testing.T) {
	good := 0
	grid(func(r api.Record) {
		size, sectors := record.Size(r), record.Sectors(r)
		if !mayBe(r) {
			checks(t, r, api.ErrRecord)
			if b, err := record.Encode(r); err != api.ErrRecord || len(b) != 0 || size != 0 || sectors != 0 {
				t.Errorf("of what may not be: error %d, %d bytes, %d, %d", err, len(b), size, sectors)
			}
			return
		}
		good++
		checks(t, r, api.OK)
		want := 21 + len(r.Key) + len(r.Value)
		if b, err := record.Encode(r); err != api.OK || len(b) != want || size != want || sectors != (want+47)/48 {
			t.Errorf("of what may be: error %d, %d bytes, not %d, %d, %d", err, len(b), want, size, sectors)
		}
	})
	if good != 3*(2*3*9+2) {
		t.Errorf("%d may be", good)
	}
}

// same fails, unless Same answers that, either way round.
func same(t *testing.T, what string, a, b api.Record, want bool) {
	t.Helper()
	if record.Same(a, b) != want || record.Same(b, a) != want {
		t.Errorf("Same, %s: not %t", what, want)
	}
}

// P6.1: each field is enough that two are not the same.
func TestSameByFields(t *testing.T) {
	for _, change := range []struct {
		what string
		do   func(r *api.Record)
	}{
		{"kind", func(r *api.Record) { r.Kind++ }},
		{"kind with the same lowest byte", func(r *api.Record) { r.Kind += 256 }},
		{"kind below 0", func(r *api.Record) { r.Kind = -r.Kind }},
		{"flags", func(r *api.Record) { r.Flags++ }},
		{"flags' highest bit", func(r *api.Record) { r.Flags ^= 1 << 31 }},
		{"expiry", func(r *api.Record) { r.Expiry++ }},
		{"expiry's highest bit", func(r *api.Record) { r.Expiry ^= 1 << 31 }},
		{"seq", func(r *api.Record) { r.Seq++ }},
		{"seq's highest bit", func(r *api.Record) { r.Seq ^= 1 << 63 }},
		{"key's first byte", func(r *api.Record) { r.Key[0]++ }},
		{"key's last byte", func(r *api.Record) { r.Key[len(r.Key)-1]++ }},
		{"a shorter key", func(r *api.Record) { r.Key = r.Key[:len(r.Key)-1] }},
		{"a longer key", func(r *api.Record) { r.Key = append(r.Key, 0) }},
		{"no key", func(r *api.Record) { r.Key = nil }},
		{"value's first byte", func(r *api.Record) { r.Value[0]++ }},
		{"value's last byte", func(r *api.Record) { r.Value[len(r.Value)-1]++ }},
		{"a shorter value", func(r *api.Record) { r.Value = r.Value[:len(r.Value)-1] }},
		{"a longer value", func(r *api.Record) { r.Value = append(r.Value, 0) }},
		{"no value", func(r *api.Record) { r.Value = nil }},
		{"flags and expiry changed", func(r *api.Record) { r.Flags, r.Expiry = r.Expiry, r.Flags }},
		{"key and value changed", func(r *api.Record) { r.Key, r.Value = r.Value, r.Key }},
		{"a byte from the key to the value", func(r *api.Record) {
			last := len(r.Key) - 1
			r.Key, r.Value = r.Key[:last], append([]byte{r.Key[last]}, r.Value...)
		}},
	} {
		for _, size := range [][2]int{{2, 3}, {3, 3}, {250, 512}, {300, 600}} {
			r := item(size[0], size[1])
			change.do(&r)
			same(t, change.what, item(size[0], size[1]), r, false)
			same(t, change.what, r, r, true)
		}
	}
}

// P6.1: lists in memory of their own, or with other room behind, are the same; so are nil and empty ones.
func TestSameOfLists(t *testing.T) {
	same(t, "items", item(4, 5), item(4, 5), true)
	same(t, "tombstones", tomb(4), tomb(4), true)
	same(t, "nothing", api.Record{}, api.Record{}, true)
	r, room := item(4, 5), item(9, 9)
	room.Key, room.Value = room.Key[:4], room.Value[:5]
	same(t, "room behind", r, room, true)
	none, empty := item(4, 0), item(4, 0)
	none.Value, empty.Value = nil, []byte{}
	same(t, "nil and empty values", none, empty, true)
	none.Key, empty.Key = nil, []byte{}
	same(t, "nil and empty keys", none, empty, true)
	empty.Value = []byte{0}
	same(t, "a nought and none", none, empty, false)
	empty.Value, empty.Key = nil, []byte{0}
	same(t, "a nought and no key", none, empty, false)
}

// P6.1: those that may not be are the same, too, if their fields are.
func TestSameOfWhatMayNotBe(t *testing.T) {
	for _, change := range []func(r *api.Record){
		func(r *api.Record) { r.Kind = 0 },
		func(r *api.Record) { r.Kind = math.MinInt },
		func(r *api.Record) { r.Seq = 0 },
		func(r *api.Record) { r.Key = nil },
		func(r *api.Record) { r.Key = run(0, 251) },
		func(r *api.Record) { r.Value = run(0, 513) },
		func(r *api.Record) { r.Kind = 2 },
	} {
		a, b := item(4, 5), item(4, 5)
		change(&a)
		change(&b)
		checks(t, a, api.ErrRecord)
		same(t, "two that may not be", a, b, true)
		same(t, "one that may not be", a, item(4, 5), false)
		b.Flags++
		same(t, "two that may not be, other flags", a, b, false)
	}
}

// P6.1: Tomb answers the tombstone of that key and sequence, with nothing else in it.
func TestTomb(t *testing.T) {
	for _, n := range []int{1, 2, 249, 250} {
		for _, seq := range []uint64{1, 2, 1 << 32, math.MaxUint64} {
			for _, key := range [][]byte{run(3, n), make([]byte, n), bytes.Repeat([]byte{255}, n)} {
				got, err := record.Tomb(key, seq)
				if want := (api.Record{Kind: 2, Seq: seq, Key: key}); err != api.OK || !like(got, want) {
					t.Errorf("Tomb(%d bytes, %d): error %d, %v", n, seq, err, got)
				}
				checks(t, got, api.OK)
			}
		}
	}
}

// P6.1: keys that are too short or too long, and no sequence.
func TestTombRefuses(t *testing.T) {
	refuses := func(key []byte, seq uint64) {
		t.Helper()
		got, err := record.Tomb(key, seq)
		if err != api.ErrRecord || !like(got, api.Record{}) {
			t.Errorf("Tomb(%d bytes, %d): error %d, %v", len(key), seq, err, got)
		}
	}
	for _, n := range []int{0, 251, 252, 256, 257, 512, 1<<16 + 1} {
		for _, seq := range []uint64{0, 1, math.MaxUint64} {
			refuses(make([]byte, n), seq)
		}
	}
	refuses(nil, 1)
	for _, n := range []int{1, 250} {
		refuses(run(0, n), 0)
	}
}

// P6.1, R3: a tombstone's key is in memory of its own, the room behind it too.
func TestTombKeepsNothing(t *testing.T) {
	room := []byte("abcdef")
	first, _ := record.Tomb(room[:3], 1)
	second, _ := record.Tomb(room[:3], 1)
	_ = append(first.Key, "xyz"...)
	if string(room) != "abcdef" {
		t.Errorf("changed: %s", room)
	}
	clear(room)
	if string(first.Key) != "abc" {
		t.Errorf("shared with what was handed in: %s", first.Key)
	}
	clear(first.Key[:cap(first.Key)])
	if string(second.Key) != "abc" {
		t.Errorf("shared with another answer: %s", second.Key)
	}
}
