package octet_test

import (
	"bytes"
	"math"
	"slices"
	"testing"

	"icehouse/api"
	"icehouse/octet"
)

// reading is one of the calls that read, and of how many bytes; nothing tells whether it told 0, or no bytes.
type reading struct {
	name    string
	count   int
	nothing func(r *octet.Reader) bool
}

func readings() []reading {
	out := []reading{
		{"U8", 1, func(r *octet.Reader) bool { return r.U8() == 0 }},
		{"U16", 2, func(r *octet.Reader) bool { return r.U16() == 0 }},
		{"U32", 4, func(r *octet.Reader) bool { return r.U32() == 0 }},
		{"U64", 8, func(r *octet.Reader) bool { return r.U64() == 0 }},
	}
	for _, n := range []int{1, 2, 3, 9} {
		out = append(out, reading{"Raw", n, func(r *octet.Reader) bool { return len(r.Raw(n)) == 0 }})
	}
	return out
}

// stands fails, unless the Reader has so many bytes left, and that error.
func stands(t *testing.T, when string, r *octet.Reader, left int, err api.Errno) {
	t.Helper()
	if r.Left() != left || r.Err() != err {
		t.Errorf("%s: %d left, error %d; not %d, %d", when, r.Left(), r.Err(), left, err)
	}
}

// P1.3: the chapter's example.
func TestReadExample(t *testing.T) {
	r := octet.Read([]byte{1, 2, 5})
	if x := r.U16(); x != 258 {
		t.Errorf("U16: %d", x)
	}
	stands(t, "behind U16", r, 1, api.OK)
	if x := r.U16(); x != 0 {
		t.Errorf("U16 of one byte: %d", x)
	}
	stands(t, "behind the end", r, 1, api.ErrShort)
	if b := r.Raw(1); len(b) != 0 {
		t.Errorf("Raw(1) with an error: % x", b)
	}
	stands(t, "behind Raw", r, 1, api.ErrShort)
}

// P1.3: the numbers come one behind the other, the highest byte first.
func TestReadInOrder(t *testing.T) {
	b := make([]byte, 20)
	for i := range b {
		b[i] = byte(0xf0 + i)
	}
	r := octet.Read(b)
	stands(t, "at first", r, 20, api.OK)
	if x := r.U8(); x != 0xf0 {
		t.Errorf("U8: %x", x)
	}
	stands(t, "behind U8", r, 19, api.OK)
	if x := r.U16(); x != 0xf1f2 {
		t.Errorf("U16: %x", x)
	}
	stands(t, "behind U16", r, 17, api.OK)
	if x := r.U32(); x != 0xf3f4f5f6 {
		t.Errorf("U32: %x", x)
	}
	stands(t, "behind U32", r, 13, api.OK)
	if x := r.U64(); x != 0xf7f8f9fafbfcfdfe {
		t.Errorf("U64: %x", x)
	}
	stands(t, "behind U64", r, 5, api.OK)
	if got := r.Raw(3); !bytes.Equal(got, []byte{0xff, 0x00, 0x01}) {
		t.Errorf("Raw(3): % x", got)
	}
	stands(t, "behind Raw", r, 2, api.OK)
	if got := r.Raw(2); !bytes.Equal(got, []byte{0x02, 0x03}) {
		t.Errorf("Raw(2): % x", got)
	}
	stands(t, "at the end", r, 0, api.OK)
}

// P1.3: of just as many bytes as are asked for all are read; of one less none, and the Reader stands where it stood.
func TestReadAtTheEnd(t *testing.T) {
	for _, c := range readings() {
		r := octet.Read(bytes.Repeat([]byte{7}, c.count))
		if c.nothing(r) {
			t.Errorf("%s of all %d bytes tells nothing", c.name, c.count)
		}
		stands(t, c.name+" of all", r, 0, api.OK)
		r = octet.Read(bytes.Repeat([]byte{7}, c.count-1))
		if !c.nothing(r) {
			t.Errorf("%s of %d bytes, one too few, tells something", c.name, c.count-1)
		}
		stands(t, c.name+" of one too few", r, c.count-1, api.ErrShort)
	}
}

// P1.3: bytes that end too early behind what was read well.
func TestReadTooShortLater(t *testing.T) {
	for _, c := range readings() {
		r := octet.Read(bytes.Repeat([]byte{7}, 20+c.count-1))
		r.Raw(20)
		if !c.nothing(r) {
			t.Errorf("%s behind 20 bytes tells something", c.name)
		}
		stands(t, c.name, r, c.count-1, api.ErrShort)
	}
}

// P1.3: a Reader with an error reads nothing more, and keeps its first error.
func TestReadBehindAnError(t *testing.T) {
	breaks := []struct {
		err   api.Errno
		cause func(r *octet.Reader)
	}{
		{api.ErrShort, func(r *octet.Reader) { r.Raw(31) }},
		{api.ErrArg, func(r *octet.Reader) { r.Raw(-1) }},
	}
	for _, b := range breaks {
		for _, c := range readings() {
			r := octet.Read(bytes.Repeat([]byte{7}, 30))
			b.cause(r)
			stands(t, "at the error", r, 30, b.err)
			if !c.nothing(r) {
				t.Errorf("%s behind error %d tells something", c.name, b.err)
			}
			stands(t, c.name+" behind an error", r, 30, b.err)
			for _, again := range breaks {
				again.cause(r)
			}
			stands(t, "behind one more error", r, 30, b.err)
		}
	}
}

// P1.3: Raw of no bytes, of fewer than none, of as many as an int can say.
func TestRawEdges(t *testing.T) {
	for _, n := range []int{-1, -2, -4, math.MinInt} {
		for _, b := range [][]byte{nil, {1}, {1, 2, 3, 4, 5}} {
			r := octet.Read(b)
			if got := r.Raw(n); len(got) != 0 {
				t.Errorf("Raw(%d): % x", n, got)
			}
			stands(t, "Raw below 0", r, len(b), api.ErrArg)
		}
	}
	for _, n := range []int{6, 1 << 31, math.MaxInt} {
		r := octet.Read([]byte{1, 2, 3, 4, 5})
		r.U8()
		if got := r.Raw(n); len(got) != 0 {
			t.Errorf("Raw(%d): % x", n, got)
		}
		stands(t, "Raw above what is left", r, 4, api.ErrShort)
	}
	r := octet.Read([]byte{9})
	if got := r.Raw(0); len(got) != 0 {
		t.Errorf("Raw(0): % x", got)
	}
	stands(t, "Raw(0)", r, 1, api.OK)
	r.U8()
	r.Raw(0)
	stands(t, "Raw(0) at the end", r, 0, api.OK)
	r.U8()
	r.Raw(0)
	stands(t, "Raw(0) behind an error", r, 0, api.ErrShort)
}

// P1.3: of no bytes nothing is read, and that is no error till it is tried.
func TestReadNoBytes(t *testing.T) {
	for _, b := range [][]byte{nil, {}} {
		stands(t, "at first", octet.Read(b), 0, api.OK)
		for _, c := range readings() {
			r := octet.Read(b)
			if !c.nothing(r) {
				t.Errorf("%s of no bytes tells something", c.name)
			}
			stands(t, c.name, r, 0, api.ErrShort)
		}
	}
}

// P1.3, R4: a Reader that is not there tells nothing, ErrNil, and stays so.
func TestReadNil(t *testing.T) {
	var r *octet.Reader
	stands(t, "nil", r, 0, api.ErrNil)
	for _, c := range readings() {
		if !c.nothing(r) {
			t.Errorf("%s of nil tells something", c.name)
		}
		stands(t, c.name+" of nil", r, 0, api.ErrNil)
	}
	for _, n := range []int{-1, 0, math.MaxInt} {
		if got := r.Raw(n); len(got) != 0 {
			t.Errorf("Raw(%d) of nil: % x", n, got)
		}
	}
	stands(t, "nil, at last", r, 0, api.ErrNil)
}

// P1.3, R3: the bytes are neither changed nor kept, and what Raw answers is new memory.
func TestReadSharesNothing(t *testing.T) {
	b := []byte{1, 2, 3, 4, 5, 6, 7, 8}
	r := octet.Read(b[:6])
	if got := r.Raw(2); !bytes.Equal(append(got, 99), []byte{1, 2, 99}) {
		t.Errorf("Raw(2): % x", got)
	}
	clear(b[2:6])
	got := r.Raw(2)
	if !bytes.Equal(got, []byte{3, 4}) {
		t.Errorf("Raw(2) behind a change of what was handed in: % x", got)
	}
	clear(got[:cap(got)])
	if x := r.U16(); x != 0x0506 {
		t.Errorf("U16 behind a change of what was answered: %x", x)
	}
	stands(t, "at the end", r, 0, api.OK)
	if !bytes.Equal(b, []byte{1, 2, 0, 0, 0, 0, 7, 8}) {
		t.Errorf("what was handed in is changed: % x", b)
	}
}

// P1.3, R5: two Readers of the same bytes go on by themselves.
func TestReadersApart(t *testing.T) {
	b := []byte{1, 2, 3}
	one, two := octet.Read(b), octet.Read(b)
	one.Raw(4)
	if x := two.U8(); x != 1 {
		t.Errorf("U8: %d", x)
	}
	stands(t, "the one", one, 3, api.ErrShort)
	stands(t, "the other", two, 2, api.OK)
}

// P1.4: what was put is read as the same, and nothing is left.
func TestPutThenRead(t *testing.T) {
	for _, x := range numbers() {
		b := octet.Put64(octet.Put32(octet.Put16([]byte{42}, uint16(x)), uint32(x)), x)
		r := octet.Read(b)
		if r.U8() != 42 || r.U16() != uint16(x) || r.U32() != uint32(x) || r.U64() != x {
			t.Errorf("%x is read otherwise of % x", x, b)
		}
		stands(t, "behind all", r, 0, api.OK)
		if got := octet.Read(b).Raw(len(b)); !octet.Equal(got, b) {
			t.Errorf("Raw of % x: % x", b, got)
		}
	}
}

// P1.4: of each of the three calls alone.
func TestPutThenReadAlone(t *testing.T) {
	for _, x := range numbers() {
		r := octet.Read(octet.Put16(nil, uint16(x)))
		if got := r.U16(); got != uint16(x) {
			t.Errorf("16: %x, not %x", got, uint16(x))
		}
		stands(t, "16", r, 0, api.OK)
		r = octet.Read(octet.Put32(nil, uint32(x)))
		if got := r.U32(); got != uint32(x) {
			t.Errorf("32: %x, not %x", got, uint32(x))
		}
		stands(t, "32", r, 0, api.OK)
		r = octet.Read(octet.Put64(nil, x))
		if got := r.U64(); got != x {
			t.Errorf("64: %x, not %x", got, x)
		}
		stands(t, "64", r, 0, api.OK)
	}
}

// P1.4: the bytes of a greater number are greater, byte by byte.
func TestGreaterNumbersHaveGreaterBytes(t *testing.T) {
	for _, p := range puttings() {
		var l []uint64
		for _, x := range numbers() {
			l = append(l, low(x, p.count))
		}
		slices.Sort(l)
		l = slices.Compact(l)
		for i := 1; i < len(l); i++ {
			less, more := p.put(nil, l[i-1]), p.put(nil, l[i])
			if bytes.Compare(less, more) >= 0 {
				t.Errorf("%s: % x of %x is not below % x of %x", p.name, less, l[i-1], more, l[i])
			}
		}
	}
}
