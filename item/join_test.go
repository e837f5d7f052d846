package item_test

import (
	"bytes"
	"testing"

	"icehouse/api"
	"icehouse/item"
)

// P17.3: the second list stands behind the first one, for each of the lengths that come to MaxValue, one less and one more.
func TestJoinOfLengths(t *testing.T) {
	for together := 510; together <= 515; together++ {
		for n := range together + 1 {
			_, err := join(t, run(1, n), run(100, together-n))
			if (err == api.OK) != (together <= 512) {
				t.Errorf("Join of %d and %d bytes is error %d", n, together-n, err)
			}
		}
	}
	for a := range 40 {
		for b := range 40 {
			join(t, run(7, a), run(200, b))
		}
	}
}

// P17.3: nil and empty lists are values of no bytes.
func TestJoinOfNothing(t *testing.T) {
	for _, none := range [][]byte{nil, {}, []byte("abc")[:0]} {
		for _, n := range []int{0, 1, 511, 512, 513, 514, 1000} {
			join(t, none, run(0, n))
			join(t, run(0, n), none)
		}
		for _, other := range [][]byte{nil, {}, []byte("abc")[:0]} {
			if got, err := item.Join(none, other); len(got) != 0 || err != api.OK {
				t.Errorf("Join of nothing is %q, error %d", got, err)
			}
		}
	}
}

// P17.3: one list alone that is too long, and both.
func TestJoinOfLongLists(t *testing.T) {
	for _, l := range [][2]int{{513, 0}, {0, 513}, {513, 1}, {1, 513}, {512, 1}, {1, 512}, {512, 512}, {513, 513}, {256, 257}, {257, 256}, {1 << 16, 0}, {0, 1 << 16}, {1 << 20, 1 << 20}} {
		if got, err := item.Join(run(0, l[0]), run(0, l[1])); got != nil || err != api.ErrLong {
			t.Errorf("Join of %d and %d bytes is %d bytes, error %d", l[0], l[1], len(got), err)
		}
	}
}

// P17.3: every byte may stand in a value, at each end.
func TestJoinOfEveryByte(t *testing.T) {
	for x := range 256 {
		for y := range 256 {
			if got, err := item.Join([]byte{byte(x)}, []byte{byte(y)}); !bytes.Equal(got, []byte{byte(x), byte(y)}) || err != api.OK {
				t.Errorf("Join of %x and %x is % x, error %d", x, y, got, err)
			}
		}
	}
}

// P17.3: a list may be joined with itself, and with a part of itself.
func TestJoinWithItself(t *testing.T) {
	b := run(1, 256)
	join(t, b, b)
	join(t, b[:100], b[50:150])
	join(t, b[100:], b[:100])
	if !bytes.Equal(b, run(1, 256)) {
		t.Errorf("changed: % x", b)
	}
}

// P17.3: keys of 0, 1, MaxKey and one more bytes with values of 0, 1, MaxValue and one more; of both errors the key's is told.
func TestCheck(t *testing.T) {
	for _, key := range []int{0, 1, 2, 249, 250, 251, 252, 256, 257, 500, 512, 1<<16 + 1} {
		for _, value := range []int{0, 1, 2, 250, 251, 511, 512, 513, 514, 762, 768, 1<<16 + 1} {
			asked := api.OK
			switch {
			case key == 0 || key > 250:
				asked = api.ErrArg
			case value > 512:
				asked = api.ErrLong
			}
			if got := item.Check(make([]byte, key), make([]byte, value)); got != asked {
				t.Errorf("Check of %d and %d bytes is %d; asked is %d", key, value, got, asked)
			}
		}
	}
	for _, value := range [][]byte{nil, {}, run(0, 512), run(0, 513)} {
		for _, key := range [][]byte{nil, {}, []byte("a")[:0]} {
			if got := item.Check(key, value); got != api.ErrArg {
				t.Errorf("Check of no key and %d bytes is %d", len(value), got)
			}
		}
	}
	for _, value := range [][]byte{nil, {}, []byte("a")[:0]} {
		if got := item.Check([]byte("a"), value); got != api.OK {
			t.Errorf("Check of a and no value is %d", got)
		}
	}
}

// P17.3: each length of a key, each length of a value.
func TestCheckOfLengths(t *testing.T) {
	for n := range 600 {
		check(t, run(0, n), run(0, 5))
		check(t, run(0, n), run(0, 513))
		check(t, run(0, 5), run(0, n))
		check(t, nil, run(0, n))
	}
}

// P17.3: keys and values are of any bytes.
func TestCheckOfEveryByte(t *testing.T) {
	for x := range 256 {
		for _, n := range []int{1, 250} {
			if got := item.Check(bytes.Repeat([]byte{byte(x)}, n), bytes.Repeat([]byte{byte(x)}, 2*n)); got != api.OK {
				t.Errorf("Check of bytes %x is %d", x, got)
			}
		}
	}
}
