package record_test

import (
	"bytes"
	"math"
	"math/rand"
	"testing"

	"icehouse/api"
	"icehouse/record"
)

// encoded is what Encode answers, which must not fail.
func encoded(t *testing.T, r api.Record) []byte {
	t.Helper()
	b, err := record.Encode(r)
	if err != api.OK {
		t.Fatalf("Encode of %v: error %d", r, err)
	}
	return b
}

// lot is records that may be: of the edges, and many of any fields.
func lot() []api.Record {
	var out []api.Record
	grid(func(r api.Record) {
		if mayBe(r) {
			out = append(out, r)
		}
	})
	random := rand.New(rand.NewSource(6))
	some := func(n int) []byte {
		b := make([]byte, n)
		random.Read(b)
		return b
	}
	for range 300 {
		seq := 1 + random.Uint64()%math.MaxUint64
		out = append(out,
			api.Record{Kind: 2, Seq: seq, Key: some(1 + random.Intn(250))},
			api.Record{Kind: 1, Flags: random.Uint32(), Expiry: random.Uint32(), Seq: seq, Key: some(1 + random.Intn(250)), Value: some(random.Intn(513))})
	}
	return out
}

// P6.4: Decode of Encode, with whatever behind, is the record, and Size.
func TestDecodeOfEncode(t *testing.T) {
	for _, r := range lot() {
		b := encoded(t, r)
		for _, behind := range [][]byte{nil, {0}, {255}, b, b[:20], make([]byte, 48), bytes.Repeat([]byte{2}, 1000)} {
			all := append(bytes.Clone(b), behind...)
			decodes(t, all, r, record.Size(r))
			if got, _, _ := record.Decode(all); !record.Same(got, r) {
				t.Errorf("Decode of Encode is not the same: %v, %v", got, r)
			}
		}
	}
}

// P6.4: records one behind the other are read as they were put.
func TestDecodeOneBehindTheOther(t *testing.T) {
	var all []byte
	for _, r := range lot() {
		all = append(all, encoded(t, r)...)
	}
	for _, want := range lot() {
		r, n, err := record.Decode(all)
		if err != api.OK || n > len(all) || !like(r, want) {
			t.Fatalf("error %d, %v, not %v", err, r, want)
		}
		all = all[n:]
	}
	unneeded(t, all, api.ErrShort)
}

// P6.4: what Decode tells, encoded, is the bytes that it had, whatever byte is changed.
func TestEncodeOfDecode(t *testing.T) {
	whole := 0
	for _, r := range lot() {
		b := encoded(t, r)
		for at := range min(len(b), 60) {
			for _, x := range []byte{1, 2, 128, 255} {
				changed := append(bytes.Clone(b), 7)
				changed[at] ^= x
				got, n, err := record.Decode(changed)
				if err != api.OK {
					undecoded(t, changed, err)
					continue
				}
				whole++
				checks(t, got, api.OK)
				encodes(t, got, changed[:n])
			}
		}
	}
	if whole < 10000 {
		t.Errorf("only %d were records", whole)
	}
}

// P6.4: no record's bytes are the begin of another one's: there is none in them that is shorter.
func TestNoneBeginsAnother(t *testing.T) {
	for _, r := range lot() {
		b := encoded(t, r)
		for n := range len(b) {
			if got, _, err := record.Decode(b[:n]); err != api.ErrShort {
				t.Fatalf("the first %d of %d bytes: error %d, %v", n, len(b), err, got)
			}
		}
	}
}

// P6.4: unlike records have unlike bytes.
func TestUnlikeBytes(t *testing.T) {
	seen := map[string]api.Record{}
	for _, r := range lot() {
		b := string(encoded(t, r))
		if other, ok := seen[b]; ok && !record.Same(other, r) {
			t.Errorf("the same bytes: %v, %v", other, r)
		}
		seen[b] = r
	}
}

// P6.4: a record has 1 to 17 sectors, and as many as hold its bytes: of all keys and values.
func TestAllSizes(t *testing.T) {
	least, most := math.MaxInt, 0
	measure := func(r api.Record, size int) {
		sectors := record.Sectors(r)
		least, most = min(least, sectors), max(most, sectors)
		if record.Size(r) != size || sectors*48 < size || (sectors-1)*48 >= size {
			t.Errorf("of %d bytes: Size %d, Sectors %d", size, record.Size(r), sectors)
		}
	}
	for key := 1; key <= 250; key++ {
		for value := range 513 {
			measure(api.Record{Kind: 1, Seq: 1, Key: long[:key], Value: long[:value]}, 21+key+value)
		}
		measure(api.Record{Kind: 2, Seq: 1, Key: long[:key]}, 21+key)
	}
	if least != 1 || most != 17 {
		t.Errorf("from %d to %d sectors", least, most)
	}
}
