package record_test

import (
	"bytes"
	"math"
	"testing"

	"icehouse/api"
	"icehouse/record"
)

// needs fails, unless Need answers these.
func needs(t *testing.T, b []byte, want int, wantErr api.Errno) {
	t.Helper()
	if got, err := record.Need(b); got != want || err != wantErr {
		t.Errorf("Need(% x): %d, error %d, not %d, %d", b[:min(len(b), 30)], got, err, want, wantErr)
	}
}

// decodes fails, unless Decode answers that record, and how many bytes it has, which Need answers too.
func decodes(t *testing.T, b []byte, want api.Record, size int) {
	t.Helper()
	needs(t, b, size, api.OK)
	got, n, err := record.Decode(b)
	if err != api.OK || n != size || !like(got, want) {
		t.Errorf("Decode(% x): error %d, %v, not %v, %d, not %d", b[:min(len(b), 30)], err, got, want, n, size)
	}
}

// undecoded fails, unless Decode answers that error, and nothing else.
func undecoded(t *testing.T, b []byte, want api.Errno) {
	t.Helper()
	if got, n, err := record.Decode(b); err != want || n != 0 || !like(got, api.Record{}) {
		t.Errorf("Decode(% x): error %d, not %d, %v, %d", b[:min(len(b), 30)], err, want, got, n)
	}
}

// unneeded fails, unless both calls answer that error.
func unneeded(t *testing.T, b []byte, want api.Errno) {
	t.Helper()
	needs(t, b, 0, want)
	undecoded(t, b, want)
}

// number is that number, the highest byte first.
func number(b []byte) uint64 {
	x := uint64(0)
	for _, c := range b {
		x = x*256 + uint64(c)
	}
	return x
}

// told is the record that 21 bytes or more say, as the words have it, be it one that may be or not; what of its key and value does not stand there is noughts.
func told(b []byte) api.Record {
	key, value := int(number(b[17:19])), int(number(b[19:21]))
	behind := make([]byte, key+value)
	copy(behind, b[21:])
	return api.Record{
		Kind:   int(b[0]),
		Flags:  uint32(number(b[1:5])),
		Expiry: uint32(number(b[5:9])),
		Seq:    number(b[9:17]),
		Key:    behind[:key],
		Value:  behind[key:],
	}
}

// judged fails, unless Need and Decode answer of these bytes, 21 at least, what the words say.
func judged(t *testing.T, b []byte) {
	t.Helper()
	want := told(b)
	size := 21 + len(want.Key) + len(want.Value)
	switch {
	case !mayBe(want):
		unneeded(t, b, api.ErrRecord)
	case len(b) < size:
		needs(t, b, size, api.OK)
		undecoded(t, b, api.ErrShort)
	default:
		decodes(t, b, want, size)
	}
}

// P6.3: each byte of the head has its own place, the highest first.
func TestDecodeByHand(t *testing.T) {
	b := []byte{1, 0x21, 0x22, 0x23, 0x24, 0x31, 0x32, 0x33, 0x34, 0x41, 0x42, 0x43, 0x44, 0x45, 0x46, 0x47, 0x48, 0, 3, 0, 2, 0x51, 0x52, 0x53, 0x61, 0x62}
	decodes(t, b, api.Record{Kind: 1, Flags: 0x21222324, Expiry: 0x31323334, Seq: 0x4142434445464748, Key: []byte{0x51, 0x52, 0x53}, Value: []byte{0x61, 0x62}}, 26)
	b = []byte{2, 0, 0, 0, 0, 0, 0, 0, 0, 0x41, 0x42, 0x43, 0x44, 0x45, 0x46, 0x47, 0x48, 0, 3, 0, 0, 0x51, 0x52, 0x53}
	decodes(t, b, api.Record{Kind: 2, Seq: 0x4142434445464748, Key: []byte{0x51, 0x52, 0x53}}, 24)
}

// P6.3: the edges of all numbers of an item, and of a tombstone, with nothing behind, and with something.
func TestDecodeAtTheEdges(t *testing.T) {
	numbers := []uint32{0, 1, math.MaxUint32}
	for _, seq := range []uint64{1, math.MaxUint64} {
		for _, key := range []uint16{1, 250} {
			k := run(0, int(key))
			decodes(t, raw(2, 0, 0, seq, key, 0, k...), api.Record{Kind: 2, Seq: seq, Key: k}, 21+int(key))
			for _, value := range []uint16{0, 1, 512} {
				v := run(9, int(value))
				for _, flags := range numbers {
					for _, expiry := range numbers {
						b := append(raw(1, flags, expiry, seq, key, value, k...), v...)
						want := api.Record{Kind: 1, Flags: flags, Expiry: expiry, Seq: seq, Key: k, Value: v}
						decodes(t, b, want, len(b))
						decodes(t, append(bytes.Clone(b), b...), want, len(b))
					}
				}
			}
		}
	}
}

// P6.3: fewer bytes than a head has are too few, whatever they are.
func TestNeedOfFewBytes(t *testing.T) {
	for n := range 21 {
		unneeded(t, raw(1, 0, 0, 1, 1, 0, 'a')[:n], api.ErrShort)
		unneeded(t, make([]byte, n), api.ErrShort)
		unneeded(t, bytes.Repeat([]byte{255}, n), api.ErrShort)
		unneeded(t, make([]byte, n, 100), api.ErrShort)
	}
	unneeded(t, nil, api.ErrShort)
	room := raw(1, 0, 0, 1, 1, 0, 'a')
	unneeded(t, room[:20], api.ErrShort)
	needs(t, room[:21], 22, api.OK)
	unneeded(t, make([]byte, 21), api.ErrRecord)
	unneeded(t, bytes.Repeat([]byte{255}, 21), api.ErrRecord)
	unneeded(t, make([]byte, 1000), api.ErrRecord)
}

// P6.3: of a right head Need knows the number, however few bytes are behind; Decode wants them all, and the room behind them is none.
func TestDecodeOfFewBytes(t *testing.T) {
	for _, r := range []api.Record{item(1, 0), item(1, 1), item(2, 26), item(250, 0), item(250, 512), tomb(1), tomb(250)} {
		b, err := record.Encode(r)
		if err != api.OK {
			t.Fatalf("Encode: error %d", err)
		}
		for n := 21; n < len(b); n++ {
			needs(t, b[:n], len(b), api.OK)
			undecoded(t, b[:n], api.ErrShort)
		}
		decodes(t, b, r, len(b))
		for _, x := range []byte{0, 1, 2, 255} {
			decodes(t, append(bytes.Clone(b), x), r, len(b))
		}
	}
}

// P6.3: each of the head's numbers is wrong by itself, with all bytes behind that it wants, with too few, and with none.
func TestNeedOfWrongHeads(t *testing.T) {
	for _, head := range [][]byte{
		raw(0, 1, 1, 1, 1, 1), raw(3, 1, 1, 1, 1, 1), raw(4, 0, 0, 1, 1, 0), raw(128, 0, 0, 1, 1, 0), raw(129, 0, 0, 1, 1, 0), raw(255, 0, 0, 1, 1, 0),
		raw(1, 1, 1, 0, 1, 1), raw(2, 0, 0, 0, 1, 0),
		raw(1, 1, 1, 1, 0, 1), raw(1, 0, 0, 1, 251, 0), raw(1, 0, 0, 1, 256, 0), raw(1, 0, 0, 1, 257, 0), raw(1, 0, 0, 1, math.MaxUint16, 0),
		raw(2, 0, 0, 1, 0, 0), raw(2, 0, 0, 1, 251, 0), raw(2, 0, 0, 1, 257, 0), raw(2, 0, 0, 1, math.MaxUint16, 0),
		raw(1, 0, 0, 1, 1, 513), raw(1, 0, 0, 1, 1, 514), raw(1, 0, 0, 1, 1, 1024), raw(1, 0, 0, 1, 250, math.MaxUint16),
		raw(2, 1, 0, 1, 1, 0), raw(2, 1<<31, 0, 1, 1, 0), raw(2, math.MaxUint32, 0, 1, 1, 0),
		raw(2, 0, 1, 1, 1, 0), raw(2, 0, 1<<31, 1, 1, 0), raw(2, 0, math.MaxUint32, 1, 1, 0),
		raw(2, 0, 0, 1, 1, 1), raw(2, 0, 0, 1, 1, 256), raw(2, 0, 0, 1, 1, 512), raw(2, 0, 0, 1, 1, 513),
	} {
		unneeded(t, head, api.ErrRecord)
		unneeded(t, append(bytes.Clone(head), 'a'), api.ErrRecord)
		unneeded(t, append(bytes.Clone(head), run(0, 2<<16)...), api.ErrRecord)
	}
}

// P6.3: every byte of the head with every value, of items and of tombstones.
func TestNeedOfEveryByte(t *testing.T) {
	for _, b := range [][]byte{
		raw(1, 0, 0, 1, 1, 0, 'a'), raw(1, 0x01020304, 0x05060708, 0x0102030405060708, 3, 4, run(0, 7)...), raw(1, math.MaxUint32, math.MaxUint32, math.MaxUint64, 250, 512, run(0, 762)...),
		raw(2, 0, 0, 1, 1, 0, 'a'), raw(2, 0, 0, math.MaxUint64, 250, 0, run(0, 250)...), raw(2, 0, 0, 1<<56, 3, 0, run(0, 1000)...),
	} {
		judged(t, b)
		for at := range 21 {
			for x := range 256 {
				changed := bytes.Clone(b)
				changed[at] = byte(x)
				judged(t, changed)
			}
		}
	}
}

// P6.3: all numbers of bytes that a head can say of a key, and of a value.
func TestNeedOfAllLengths(t *testing.T) {
	for n := range 1 << 16 {
		want, wantErr := 21+n, api.OK
		if n < 1 || n > 250 {
			want, wantErr = 0, api.ErrRecord
		}
		needs(t, raw(1, 7, 7, 7, uint16(n), 0), want, wantErr)
		needs(t, raw(2, 0, 0, 7, uint16(n), 0), want, wantErr)
		want, wantErr = 22+n, api.OK
		if n > 512 {
			want, wantErr = 0, api.ErrRecord
		}
		needs(t, raw(1, 7, 7, 7, 1, uint16(n)), want, wantErr)
		if n > 0 {
			needs(t, raw(2, 0, 0, 7, 1, uint16(n)), 0, api.ErrRecord)
		}
	}
}

// P6.3: heads of all edges, each with each.
func TestNeedOfGrid(t *testing.T) {
	numbers := []uint32{0, 1, math.MaxUint32}
	for _, kind := range []byte{0, 1, 2, 3, 255} {
		for _, seq := range []uint64{0, 1, 1 << 63, math.MaxUint64} {
			for _, key := range []uint16{0, 1, 250, 251, 256, math.MaxUint16} {
				for _, value := range []uint16{0, 1, 512, 513, math.MaxUint16} {
					for _, flags := range numbers {
						for _, expiry := range numbers {
							judged(t, raw(kind, flags, expiry, seq, key, value))
							judged(t, raw(kind, flags, expiry, seq, key, value, long[:700]...))
						}
					}
				}
			}
		}
	}
}

// P6.3, R3: bytes are neither changed nor kept; a record's lists are new memory, each by itself.
func TestDecodeKeepsNothing(t *testing.T) {
	b := raw(1, 1, 2, 3, 2, 3, []byte("abuvw!!!")...)
	handed := bytes.Clone(b)
	first, _, _ := record.Decode(b)
	second, _, _ := record.Decode(b)
	_ = append(first.Key, "xyz"...)
	_ = append(first.Value, "xyz"...)
	if !bytes.Equal(b, handed) {
		t.Errorf("changed: % x", b)
	}
	clear(b)
	if want := (api.Record{Kind: 1, Flags: 1, Expiry: 2, Seq: 3, Key: []byte("ab"), Value: []byte("uvw")}); !like(first, want) || !like(second, want) {
		t.Errorf("shared with what was handed in, or with one another: %v, %v", first, second)
	}
	clear(first.Key[:cap(first.Key)])
	if string(first.Value) != "uvw" || string(second.Key) != "ab" {
		t.Errorf("keys are shared: %v, %v", first, second)
	}
	clear(first.Value[:cap(first.Value)])
	if string(second.Value) != "uvw" {
		t.Errorf("values are shared: %v", second)
	}
}
