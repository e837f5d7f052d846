package bloom_test

import (
	"bytes"
	"testing"

	"icehouse/api"
	"icehouse/bloom"
)

// of is the filter of those bytes.
func of(t *testing.T, b ...byte) *bloom.Filter {
	t.Helper()
	f, err := bloom.Of(b)
	is(t, "Of", err, api.OK)
	if f == nil {
		t.Fatalf("Of(% x): no filter", b)
	}
	return f
}

// wrong fails, unless Of refuses those bytes so, and answers no filter.
func wrong(t *testing.T, want api.Errno, b ...byte) {
	t.Helper()
	if f, err := bloom.Of(b); f != nil || err != want {
		t.Errorf("Of(% x ..), of %d bytes: %v, error %d, not %d", b[:min(len(b), 4)], len(b), f != nil, err, want)
	}
}

// P4.4: how many bits there are stands ahead, the highest byte first, and bit 0 is the highest one of the first byte.
func TestBytesByHand(t *testing.T) {
	for _, c := range []struct {
		size   int
		hashes []uint64
		want   []byte
	}{
		{8, nil, []byte{0, 0, 0, 8, 0}},
		{8, []uint64{0}, []byte{0, 0, 0, 8, 0xF0}},
		{8, []uint64{5}, []byte{0, 0, 0, 8, 0x87}},
		{16, []uint64{6}, []byte{0, 0, 0, 16, 0x03, 0xC0}},
		{24, []uint64{3 << 32}, []byte{0, 0, 0, 24, 0x92, 0x40, 0}},
		{24, []uint64{0, 23}, []byte{0, 0, 0, 24, 0xF0, 0, 1}},
	} {
		if got := filter(t, c.size, c.hashes...).Bytes(); !bytes.Equal(got, c.want) {
			t.Errorf("of %d bits with %x: % x, not % x", c.size, c.hashes, got, c.want)
		}
	}
}

// P4.4: sizes of two bytes and of three.
func TestBytesOfGreatSizes(t *testing.T) {
	for size, head := range map[int][]byte{
		256:   {0, 0, 1, 0},
		1024:  {0, 0, 4, 0},
		65528: {0, 0, 0xFF, 0xF8},
		65536: {0, 1, 0, 0},
	} {
		got := filter(t, size, uint64(size-1)).Bytes()
		if len(got) != 4+size/8 || !bytes.Equal(got[:4], head) || got[4] != 0xE0 || got[len(got)-1] != 1 {
			t.Errorf("of %d bits: %d bytes, % x .. %x", size, len(got), got[:5], got[len(got)-1])
		}
	}
}

// P4.4: of fewer than four bytes, whatever they are.
func TestOfTooFewBytes(t *testing.T) {
	wrong(t, api.ErrShort)
	if f, err := bloom.Of(nil); f != nil || err != api.ErrShort {
		t.Errorf("Of(nil): %v, error %d", f != nil, err)
	}
	for n := 1; n < 4; n++ {
		wrong(t, api.ErrShort, make([]byte, n)...)
		wrong(t, api.ErrShort, bytes.Repeat([]byte{8}, n)...)
		wrong(t, api.ErrShort, []byte{0, 0, 0, 8, 1}[:n]...)
	}
}

// P4.4: of four bytes alone there is no filter, as none has no bits.
func TestOfFourBytes(t *testing.T) {
	wrong(t, api.ErrFilter, 0, 0, 0, 0)
	wrong(t, api.ErrFilter, 0, 0, 0, 8)
	wrong(t, api.ErrFilter, 0, 1, 0, 0)
	wrong(t, api.ErrFilter, 255, 255, 255, 255)
}

// said is so many bits, in four bytes, and so many bytes behind them.
func said(size uint32, behind int) []byte {
	return append([]byte{byte(size >> 24), byte(size >> 16), byte(size >> 8), byte(size)}, make([]byte, behind)...)
}

// P4.4: bytes that say a number of bits that New refuses, with an eighth as many behind them, or one more.
func TestOfRefusedSizes(t *testing.T) {
	for _, size := range []uint32{0, 1, 7, 9, 12, 15, 17, 1025, 65529, 65535, 65537, 65544, 131072} {
		wrong(t, api.ErrFilter, said(size, int(size/8))...)
		wrong(t, api.ErrFilter, said(size, int(size/8)+1)...)
	}
}

// P4.4: sizes that are good in some of their bytes alone.
func TestOfSizesOfFourBytes(t *testing.T) {
	for _, size := range []uint32{1<<24 | 8, 1<<31 | 8, 1<<17 | 8, 8 << 16, 8 << 24, 1<<32 - 8, 1 << 31} {
		for _, behind := range []int{0, 1, 8, 8192} {
			wrong(t, api.ErrFilter, said(size, behind)...)
		}
	}
}

// P4.4: just an eighth as many bytes stand behind the size: not one too few, nor one too many.
func TestOfWrongCounts(t *testing.T) {
	for _, size := range []uint32{8, 16, 24, 1024, 65528, 65536} {
		right := int(size / 8)
		for _, behind := range []int{0, right - 1, right + 1, right + 4, 2 * right, int(size), 8192, 8193} {
			if behind != right {
				wrong(t, api.ErrFilter, said(size, behind)...)
			}
		}
		ones(t, "of just as many", of(t, said(size, right)...), int(size))
	}
}

// P4.4: the room behind the bytes' end is not theirs.
func TestOfWithRoom(t *testing.T) {
	room := []byte{0, 0, 0, 16, 0xF0, 0x01, 0xFF}
	wrong(t, api.ErrShort, room[:3]...)
	if f, err := bloom.Of(room[:5]); f != nil || err != api.ErrFilter {
		t.Errorf("of one too few, with room: %v, error %d", f != nil, err)
	}
	f, err := bloom.Of(room[:6])
	is(t, "Of", err, api.OK)
	ones(t, "with room", f, 16, 0, 1, 2, 3, 15)
	is(t, "Add", f.Add(8), api.OK)
	if !bytes.Equal(room, []byte{0, 0, 0, 16, 0xF0, 0x01, 0xFF}) {
		t.Errorf("changed: % x", room)
	}
}

// P4.4, R3: bytes that the caller changes, once they were handed in or answered, change no filter.
func TestBytesAreNew(t *testing.T) {
	handed := whole(16, 0, 15)
	f := of(t, handed...)
	g, _ := bloom.Of(handed)
	clear(handed)
	ones(t, "behind a change of what was handed in", f, 16, 0, 15)
	ones(t, "behind a change of what was handed in", g, 16, 0, 15)
	first, second := f.Bytes(), f.Bytes()
	clear(first)
	if !bytes.Equal(second, whole(16, 0, 15)) {
		t.Errorf("shared with another answer: % x", second)
	}
	ones(t, "behind a change of what was answered", f, 16, 0, 15)
}

// P4.4, R3: a filter that changes changes no bytes that were handed in, or answered ahead.
func TestBytesStay(t *testing.T) {
	handed := whole(24, 7)
	f, err := bloom.Of(handed)
	is(t, "Of", err, api.OK)
	answered := f.Bytes()
	is(t, "Add", f.Add(10), api.OK)
	is(t, "Join", f.Join(filter(t, 24, 20)), api.OK)
	for _, b := range [][]byte{handed, answered} {
		if !bytes.Equal(b, whole(24, 7)) {
			t.Errorf("changed by Add or Join: % x", b)
		}
	}
	is(t, "Clear", f.Clear(), api.OK)
	for _, b := range [][]byte{handed, answered} {
		if !bytes.Equal(b, whole(24, 7)) {
			t.Errorf("changed by Clear: % x", b)
		}
	}
	room := f.Bytes()
	_ = append(room, 9)
	is(t, "Add", f.Add(0), api.OK)
	if !bytes.Equal(room, whole(24)) {
		t.Errorf("changed behind its end: % x", room)
	}
}

// P4.4: a filter of bytes is one of the same size, and goes on as any other.
func TestOfGoesOn(t *testing.T) {
	f := of(t, whole(16, 0, 1, 2)...)
	may(t, "of three bits", f, 0, false)
	is(t, "Add", f.Add(3), api.OK)
	may(t, "of all four", f, 0, true)
	is(t, "Join", f.Join(filter(t, 16, 12)), api.OK)
	ones(t, "gone on", f, 16, 0, 1, 2, 3, 4, 5, 6, 12, 13, 14, 15)
	is(t, "Join", filter(t, 24).Join(f), api.ErrFilter)
	is(t, "Clear", f.Clear(), api.OK)
	ones(t, "cleared", f, 16)
}
