package hash_test

import (
	"bytes"
	"math"
	"testing"

	"icehouse/hash"
)

// empty is the hash of no bytes.
const empty = 14695981039346656037

// hashed is bytes, and their hash, as it is known of FNV-1a.
type hashed struct {
	text string
	hash uint64
}

func hashes() []hashed {
	return []hashed{
		{"", empty},
		{"a", 0xaf63dc4c8601ec8c},
		{"b", 0xaf63df4c8601f1a5},
		{"c", 0xaf63de4c8601eff2},
		{"fo", 0x08985907b541d342},
		{"foo", 0xdcb27518fed9d577},
		{"foobar", 0x85944171f73967e8},
		{"hello", 0xa430d84680aabd0b},
		{"chongo was here!\n", 0x46810940eff5f915},
		{"\xff\x00\x00\x01", 0x6961196491cc682d},
	}
}

// samples are bytes of many lengths and kinds: noughts, the highest ones, what is text and what is none.
func samples() [][]byte {
	out := [][]byte{nil, {}, {0}, {0, 0}, {255}, {128}, {127, 128}, {0, 255, 0}, []byte("é"), []byte("日本"), {0xe6, 0x97}}
	for n := 1; n <= 300; n += 23 {
		b := make([]byte, n)
		for i := range b {
			b[i] = byte(i*i*7 + n)
		}
		out = append(out, b)
	}
	return out
}

// plain turns h by one byte, with a factor that is added up: 2^40 and 2^8 and 179.
func plain(h uint64, x byte) uint64 {
	h = h&^255 | uint64(byte(h)^x)
	sum := h<<40 + h<<8
	for range 179 {
		sum += h
	}
	return sum
}

// P3.1: the chapter's examples.
func TestHashExamples(t *testing.T) {
	if got := hash.Hash(nil); got != 14695981039346656037 {
		t.Errorf("Hash of none: %d", got)
	}
	if got := hash.Hash([]byte{0x61}); got != 0xAF63DC4C8601EC8C {
		t.Errorf("Hash of 61: %X", got)
	}
	if got := hash.Finger("a"); got != 0xAF63DC4C {
		t.Errorf("Finger(a): %X", got)
	}
}

// P3.1: what is known of FNV-1a, of bytes and of keys.
func TestHashKnown(t *testing.T) {
	for _, c := range hashes() {
		if got := hash.Hash([]byte(c.text)); got != c.hash {
			t.Errorf("Hash(%q): %x, not %x", c.text, got, c.hash)
		}
		if got := hash.Finger(c.text); got != uint32(c.hash>>32) {
			t.Errorf("Finger(%q): %x, not the highest bits of %x", c.text, got, c.hash)
		}
	}
}

// P3.1: of no bytes a hash is what it was at first, and nothing is turned.
func TestHashOfNoBytes(t *testing.T) {
	for _, b := range [][]byte{nil, {}, []byte("ahead")[:0]} {
		if got := hash.Hash(b); got != empty {
			t.Errorf("Hash of no bytes: %d", got)
		}
		for _, h := range []uint64{0, 1, empty, math.MaxUint64} {
			if got := hash.More(h, b); got != h {
				t.Errorf("More(%x, no bytes): %x", h, got)
			}
		}
	}
	if got := hash.Finger(""); got != 0xcbf29ce4 {
		t.Errorf("Finger of no bytes: %x", got)
	}
}

// P3.1: each byte turns the hash, in order, whatever the hash is ahead of it.
func TestMoreByEachByte(t *testing.T) {
	for _, h := range []uint64{0, 1, 255, 256, 1 << 32, 1 << 63, empty, 0x0123456789abcdef, math.MaxUint64} {
		for _, b := range samples() {
			want := h
			for _, x := range b {
				want = plain(want, x)
			}
			if got := hash.More(h, b); got != want {
				t.Errorf("More(%x, % x): %x, not %x", h, b, got, want)
			}
		}
	}
}

// P3.1: the exclusive or goes ahead of the factor, and takes the lowest byte alone.
func TestMoreByHand(t *testing.T) {
	for _, c := range []struct {
		h    uint64
		b    []byte
		want uint64
	}{
		{0, []byte{0}, 0},
		{0, []byte{1}, 0x100000001b3},
		{1, []byte{1}, 0},
		{1, []byte{0}, 0x100000001b3},
		{0x100, []byte{0}, 0x100000001b300},
		{0, []byte{255}, 0xff * 0x100000001b3},
		{0, []byte{1, 0xb3}, 0x2b3000001b300},
		{1 << 40, []byte{0}, 0x1b3 << 40},
	} {
		if got := hash.More(c.h, c.b); got != c.want {
			t.Errorf("More(%x, % x): %x, not %x", c.h, c.b, got, c.want)
		}
	}
}

// P3.1: a finger is of the key's bytes, whether they are letters or not.
func TestFingerOfBytes(t *testing.T) {
	for _, b := range samples() {
		if got, want := hash.Finger(string(b)), uint32(hash.Hash(b)>>32); got != want {
			t.Errorf("Finger(%q): %x, not %x", b, got, want)
		}
	}
}

// P3.1, R3: what stands behind the end of the bytes plays no part, and nothing is changed.
func TestHashChangesNothing(t *testing.T) {
	room := []byte{1, 2, 3, 4}
	b := room[:2]
	first, second := hash.Hash(b), hash.More(7, b)
	room[3] = 9
	if hash.Hash(b) != first || hash.More(7, b) != second {
		t.Error("what is behind the end plays a part, or an answer hangs on what was asked before")
	}
	if !bytes.Equal(room, []byte{1, 2, 3, 9}) {
		t.Errorf("changed: % x", room)
	}
}

// P3.3: more of the hash of x and of y is the hash of both, one behind the other, wherever they are parted.
func TestMoreGoesOn(t *testing.T) {
	for _, b := range samples() {
		want := hash.Hash(b)
		for i := range len(b) + 1 {
			if got := hash.More(hash.Hash(b[:i]), b[i:]); got != want {
				t.Errorf("% x, parted at %d: %x, not %x", b, i, got, want)
			}
		}
	}
	for _, x := range samples() {
		for _, y := range samples() {
			both := append(bytes.Clone(x), y...)
			if got, want := hash.More(hash.Hash(x), y), hash.Hash(both); got != want {
				t.Errorf("% x and % x: %x, not %x", x, y, got, want)
			}
		}
	}
}

// P3.3: bytes of one length that are unlike at one place alone have unlike hashes.
func TestUnlikeAtOnePlace(t *testing.T) {
	for _, b := range samples() {
		for i := range b {
			seen := map[uint64]byte{}
			for x := range 256 {
				c := bytes.Clone(b)
				c[i] = byte(x)
				h := hash.Hash(c)
				if other, ok := seen[h]; ok {
					t.Errorf("of %d bytes, %d and %d at place %d: both %x", len(b), other, x, i, h)
				}
				seen[h] = byte(x)
			}
		}
	}
}
