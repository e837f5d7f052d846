package octet_test

import (
	"bytes"
	"math"
	"testing"

	"icehouse/octet"
)

// putting is one of the three calls, and how many bytes it lays.
type putting struct {
	name  string
	count int
	put   func(b []byte, x uint64) []byte
}

func puttings() []putting {
	return []putting{
		{"Put16", 2, func(b []byte, x uint64) []byte { return octet.Put16(b, uint16(x)) }},
		{"Put32", 4, func(b []byte, x uint64) []byte { return octet.Put32(b, uint32(x)) }},
		{"Put64", 8, octet.Put64},
	}
}

// numbers are those at which a byte, a half or a whole one ends, and some between.
func numbers() []uint64 {
	out := []uint64{0, 1, 2, 7, 0x7f, 0x0102030405060708, 0xfedcba9876543210, 0x8000000080008001, math.MaxUint64}
	for shift := 8; shift < 64; shift += 8 {
		x := uint64(1) << shift
		out = append(out, x-1, x, x+1, x<<7, 0xa5<<shift)
	}
	return out
}

// low answers the lowest count bytes of x as a number.
func low(x uint64, count int) uint64 {
	return x & (math.MaxUint64 >> (64 - 8*count))
}

// P1.1: the chapter's examples.
func TestPutExamples(t *testing.T) {
	if got := octet.Put16([]byte{7}, 258); !bytes.Equal(got, []byte{7, 1, 2}) {
		t.Errorf("Put16((07), 258): % x", got)
	}
	if got := octet.Put32(nil, 1); !bytes.Equal(got, []byte{0, 0, 0, 1}) {
		t.Errorf("Put32(none, 1): % x", got)
	}
	if got := octet.Put64(nil, 256); !bytes.Equal(got, []byte{0, 0, 0, 0, 0, 0, 1, 0}) {
		t.Errorf("Put64(none, 256): % x", got)
	}
}

// P1.1: each byte has its own place, the highest first.
func TestPutEachByteInItsPlace(t *testing.T) {
	if got := octet.Put16(nil, 0x0102); !bytes.Equal(got, []byte{1, 2}) {
		t.Errorf("Put16: % x", got)
	}
	if got := octet.Put32(nil, 0x01020304); !bytes.Equal(got, []byte{1, 2, 3, 4}) {
		t.Errorf("Put32: % x", got)
	}
	if got := octet.Put64(nil, 0xf1f2f3f4f5f6f7f8); !bytes.Equal(got, []byte{0xf1, 0xf2, 0xf3, 0xf4, 0xf5, 0xf6, 0xf7, 0xf8}) {
		t.Errorf("Put64: % x", got)
	}
	for _, p := range puttings() {
		for _, x := range numbers() {
			var want []byte
			for i := p.count - 1; i >= 0; i-- {
				want = append(want, byte(x>>(8*i)))
			}
			if got := p.put(nil, x); !bytes.Equal(got, want) {
				t.Errorf("%s(%x): % x, not % x", p.name, x, got, want)
			}
		}
	}
}

// P1.1: the bytes of b stand ahead, however many they are.
func TestPutBehindBytes(t *testing.T) {
	long := bytes.Repeat([]byte{1, 0, 255}, 400)
	for _, p := range puttings() {
		for _, b := range [][]byte{nil, {}, {0}, {255}, {9, 8, 7}, long} {
			got := p.put(b, math.MaxUint64)
			want := append(bytes.Clone(b), bytes.Repeat([]byte{255}, p.count)...)
			if !bytes.Equal(got, want) {
				t.Errorf("%s behind %d bytes: % x", p.name, len(b), got)
			}
		}
	}
}

// P1.1, R3: the list is a new one: neither b nor the room behind its end is changed, and nothing is shared.
func TestPutMakesANewList(t *testing.T) {
	for _, p := range puttings() {
		room := bytes.Repeat([]byte{9}, 16)
		b := room[:3]
		first := p.put(b, 0)
		second := p.put(b, math.MaxUint64)
		if !bytes.Equal(room, bytes.Repeat([]byte{9}, 16)) {
			t.Errorf("%s changes what it is handed, or the room behind: % x", p.name, room)
		}
		if !bytes.Equal(first, append([]byte{9, 9, 9}, make([]byte, p.count)...)) {
			t.Errorf("%s changes what it answered before: % x", p.name, first)
		}
		clear(first)
		if !bytes.Equal(b, []byte{9, 9, 9}) || !bytes.Equal(second[:3], []byte{9, 9, 9}) {
			t.Errorf("%s shares its answer: % x, % x", p.name, b, second)
		}
		clear(b)
		if !bytes.Equal(second[:3], []byte{9, 9, 9}) {
			t.Errorf("%s shares what it is handed: % x", p.name, second)
		}
	}
}

// P1.2: Equal.
func TestEqual(t *testing.T) {
	long := bytes.Repeat([]byte{3}, 1000)
	other := bytes.Clone(long)
	other[999] = 4
	for _, c := range []struct {
		name string
		a, b []byte
		want bool
	}{
		{"the same two", []byte{1, 2}, []byte{1, 2}, true},
		{"one less", []byte{1}, []byte{1, 0}, false},
		{"none, none", nil, nil, true},
		{"none, empty", nil, []byte{}, true},
		{"none, a nought", nil, []byte{0}, false},
		{"the first is unlike", []byte{0, 2, 3}, []byte{1, 2, 3}, false},
		{"the middle is unlike", []byte{1, 0, 3}, []byte{1, 2, 3}, false},
		{"the last is unlike", []byte{1, 2, 0}, []byte{1, 2, 3}, false},
		{"another order", []byte{1, 2}, []byte{2, 1}, false},
		{"unlike by the highest bit", []byte{128}, []byte{0}, false},
		{"a long one", long, bytes.Clone(long), true},
		{"a long one that ends otherwise", long, other, false},
	} {
		if got := octet.Equal(c.a, c.b); got != c.want {
			t.Errorf("Equal, %s: %v", c.name, got)
		}
		if got := octet.Equal(c.b, c.a); got != c.want {
			t.Errorf("Equal, turned, %s: %v", c.name, got)
		}
	}
}

// P1.2: Equal does not look behind the end of a list.
func TestEqualLooksAtWhatIsThere(t *testing.T) {
	a, b := []byte{1, 2, 3}, []byte{1, 2, 4}
	if !octet.Equal(a[:2], b[:2]) {
		t.Error("Equal looks behind the end")
	}
	if octet.Equal(a[:2], a) {
		t.Error("Equal takes the room behind the end for a part")
	}
}

// P1.2: Zero.
func TestZero(t *testing.T) {
	long := make([]byte, 1000)
	late := make([]byte, 1000)
	late[999] = 1
	for _, c := range []struct {
		name string
		b    []byte
		want bool
	}{
		{"none", nil, true},
		{"empty", []byte{}, true},
		{"one nought", []byte{0}, true},
		{"two noughts", []byte{0, 0}, true},
		{"one", []byte{1}, false},
		{"the highest bit", []byte{128}, false},
		{"the first", []byte{1, 0, 0}, false},
		{"the middle", []byte{0, 2, 0}, false},
		{"the last", []byte{0, 0, 3}, false},
		{"two that make 0 together", []byte{1, 255}, false},
		{"many", long, true},
		{"many, and one", late, false},
		{"what is behind the end", []byte{0, 1}[:1], true},
	} {
		if got := octet.Zero(c.b); got != c.want {
			t.Errorf("Zero, %s: %v", c.name, got)
		}
	}
}

// P1.2, R3: what is asked about is not changed.
func TestAskingChangesNothing(t *testing.T) {
	a, b := []byte{0, 1, 2}, []byte{0, 1, 3}
	octet.Equal(a, b)
	octet.Zero(a)
	if !bytes.Equal(a, []byte{0, 1, 2}) || !bytes.Equal(b, []byte{0, 1, 3}) {
		t.Errorf("changed: % x, % x", a, b)
	}
}
