package record_test

import (
	"bytes"
	"math"
	"testing"

	"icehouse/api"
	"icehouse/record"
)

// encodes fails, unless Encode answers those bytes, and Size how many they are.
func encodes(t *testing.T, r api.Record, want []byte) {
	t.Helper()
	got, err := record.Encode(r)
	if err != api.OK || !bytes.Equal(got, want) || record.Size(r) != len(want) {
		t.Errorf("Encode: error %d, % x, not % x, Size %d", err, got, want, record.Size(r))
	}
}

// refused fails, unless the record may not be, whichever call is asked.
func refused(t *testing.T, r api.Record) {
	t.Helper()
	checks(t, r, api.ErrRecord)
	if got, err := record.Encode(r); err != api.ErrRecord || len(got) != 0 {
		t.Errorf("Encode of what may not be: error %d, % x", err, got)
	}
	sized(t, r, 0, 0)
}

// sized fails, unless Size and Sectors answer these.
func sized(t *testing.T, r api.Record, size, sectors int) {
	t.Helper()
	if record.Size(r) != size || record.Sectors(r) != sectors {
		t.Errorf("Size %d, Sectors %d, not %d, %d", record.Size(r), record.Sectors(r), size, sectors)
	}
}

// P6.2: each byte of the head has its own place, the highest first; the key stands behind it, and then the value.
func TestEncodeByHand(t *testing.T) {
	encodes(t, api.Record{Kind: 1, Flags: 0x21222324, Expiry: 0x31323334, Seq: 0x4142434445464748, Key: []byte{0x51, 0x52, 0x53}, Value: []byte{0x61, 0x62}}, []byte{
		1, 0x21, 0x22, 0x23, 0x24, 0x31, 0x32, 0x33, 0x34, 0x41, 0x42, 0x43, 0x44, 0x45, 0x46, 0x47, 0x48, 0, 3, 0, 2, 0x51, 0x52, 0x53, 0x61, 0x62})
	encodes(t, api.Record{Kind: 2, Seq: 0x4142434445464748, Key: []byte{0x51, 0x52, 0x53}}, []byte{
		2, 0, 0, 0, 0, 0, 0, 0, 0, 0x41, 0x42, 0x43, 0x44, 0x45, 0x46, 0x47, 0x48, 0, 3, 0, 0, 0x51, 0x52, 0x53})
	encodes(t, api.Record{Kind: 1, Flags: 0x21222324, Seq: 1, Key: []byte{0}}, []byte{
		1, 0x21, 0x22, 0x23, 0x24, 0, 0, 0, 0, 0, 0, 0, 0, 0, 0, 0, 1, 0, 1, 0, 0, 0})
	encodes(t, api.Record{Kind: 1, Expiry: 0x31323334, Seq: 1 << 56, Key: []byte{0}, Value: []byte{0}}, []byte{
		1, 0, 0, 0, 0, 0x31, 0x32, 0x33, 0x34, 1, 0, 0, 0, 0, 0, 0, 0, 0, 1, 0, 1, 0, 0})
}

// P6.2: the edges of all numbers of an item, and of a tombstone.
func TestEncodeAtTheEdges(t *testing.T) {
	numbers := []uint32{0, 1, math.MaxUint32}
	for _, seq := range []uint64{1, math.MaxUint64} {
		for _, key := range []int{1, 250} {
			d := api.Record{Kind: 2, Seq: seq, Key: run(0, key)}
			encodes(t, d, raw(2, 0, 0, seq, uint16(key), 0, run(0, key)...))
			for _, value := range []int{0, 1, 512} {
				i := api.Record{Kind: 1, Seq: seq, Key: run(0, key), Value: run(9, value)}
				behind := append(run(0, key), run(9, value)...)
				for _, i.Flags = range numbers {
					for _, i.Expiry = range numbers {
						encodes(t, i, raw(1, i.Flags, i.Expiry, seq, uint16(key), uint16(value), behind...))
					}
				}
			}
		}
	}
}

// P6.2: a value that is nil is one of no bytes, of items and of tombstones.
func TestEncodeOfNoValue(t *testing.T) {
	for _, value := range [][]byte{nil, {}, make([]byte, 0, 9)} {
		i, d := item(2, 0), tomb(2)
		i.Value, d.Value = value, value
		encodes(t, i, raw(1, i.Flags, i.Expiry, i.Seq, 2, 0, i.Key...))
		encodes(t, d, raw(2, 0, 0, d.Seq, 2, 0, d.Key...))
	}
}

// P6.2: one field by itself is enough that a record may not be.
func TestEncodeRefuses(t *testing.T) {
	for _, kind := range []int{math.MinInt, -255, -254, -1, 0, 3, 255, 256, 257, 258, math.MaxInt} {
		i, d := item(1, 0), tomb(1)
		i.Kind, d.Kind = kind, kind
		refused(t, i)
		refused(t, d)
	}
	for _, key := range []int{0, 251, 256, 257, 1 << 16, 1<<16 + 1} {
		refused(t, item(key, 0))
		refused(t, item(key, 512))
		refused(t, tomb(key))
	}
	for _, value := range []int{513, 514, 1 << 16, 1<<16 + 1} {
		refused(t, item(1, value))
		refused(t, item(250, value))
	}
	i, d := item(1, 1), tomb(1)
	i.Seq, d.Seq = 0, 0
	refused(t, i)
	refused(t, d)
	for _, x := range []uint32{1, 1 << 31, math.MaxUint32} {
		d = tomb(1)
		d.Flags = x
		refused(t, d)
		d.Flags, d.Expiry = 0, x
		refused(t, d)
	}
	for _, value := range []int{1, 512, 1 << 16} {
		d = tomb(1)
		d.Value = make([]byte, value)
		refused(t, d)
	}
	refused(t, api.Record{})
}

// P6.2: records of just as many bytes as sectors hold, one fewer, and one more.
func TestSectorsAtTheirEnds(t *testing.T) {
	for count := 1; count <= 16; count++ {
		for _, key := range []int{1, 20, 250} {
			value := 48*count - 21 - key
			if value < 1 || value > 511 {
				continue
			}
			sized(t, item(key, value-1), 48*count-1, count)
			sized(t, item(key, value), 48*count, count)
			sized(t, item(key, value+1), 48*count+1, count+1)
		}
	}
	for count := 1; count <= 5; count++ {
		sized(t, tomb(48*count-22), 48*count-1, count)
		sized(t, tomb(48*count-21), 48*count, count)
		sized(t, tomb(48*count-20), 48*count+1, count+1)
	}
	sized(t, item(1, 26), 48, 1)
	sized(t, item(1, 27), 49, 2)
	sized(t, item(250, 497), 768, 16)
	sized(t, item(250, 498), 769, 17)
	sized(t, item(250, 512), 783, 17)
	sized(t, item(250, 513), 0, 0)
	sized(t, item(1, 0), 22, 1)
	sized(t, tomb(1), 22, 1)
	sized(t, tomb(250), 271, 6)
}

// P6.2, R3: what is handed in is not changed, and what stands behind its lists plays no part; what is answered is new memory each time.
func TestEncodeKeepsNothing(t *testing.T) {
	key, value := []byte("abcdef"), []byte("uvwxyz")
	r := api.Record{Kind: 1, Seq: 5, Key: key[:2], Value: value[:3]}
	want := raw(1, 0, 0, 5, 2, 3, []byte("abuvw")...)
	first, _ := record.Encode(r)
	second, _ := record.Encode(r)
	if string(key) != "abcdef" || string(value) != "uvwxyz" || r.Seq != 5 || len(r.Key) != 2 || len(r.Value) != 3 {
		t.Errorf("changed: %s, %s, %v", key, value, r)
	}
	clear(key)
	clear(value)
	if !bytes.Equal(first, want) {
		t.Errorf("shared with what was handed in: % x", first)
	}
	clear(first[:cap(first)])
	if !bytes.Equal(second, want) {
		t.Errorf("shared with another answer: % x", second)
	}
}
