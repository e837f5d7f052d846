package item_test

import (
	"math"
	"strings"
	"testing"

	"icehouse/api"
	"icehouse/item"
)

// turns fails, unless the text turned is that number's, and the number is.
func turns(t *testing.T, text string, by uint64, down bool, asked uint64) {
	t.Helper()
	turn(t, text, by, down)
	got, n, err := item.Turn([]byte(text), by, down)
	if string(got) != decimal(asked) || n != asked || err != api.OK {
		t.Errorf("Turn(%q, %d, %t) is %q, %d, error %d; the test asks for %d", text, by, down, got, n, err, asked)
	}
}

// P17.2: by nothing a number stays, but that its noughts ahead go.
func TestTurnByNothing(t *testing.T) {
	for _, down := range []bool{false, true} {
		for text, asked := range map[string]uint64{
			"0": 0, "1": 1, "7": 7, "007": 7, "000": 0, "00000000000000000000": 0, "00000000000000000001": 1, "09223372036854775808": 1 << 63,
			"9999999999999999999": 9999999999999999999, "09999999999999999999": 9999999999999999999, "18446744073709551615": math.MaxUint64,
		} {
			turns(t, text, 0, down, asked)
		}
	}
}

// P17.2: down to 0, to 1, and below 0, where it stays at 0.
func TestTurnDown(t *testing.T) {
	for _, c := range []struct {
		text      string
		by, asked uint64
	}{
		{"10", 1, 9}, {"10", 9, 1}, {"10", 10, 0}, {"10", 11, 0}, {"10", 30, 0}, {"10", math.MaxUint64, 0},
		{"0", 0, 0}, {"0", 1, 0}, {"0", 2, 0}, {"0", 1 << 63, 0}, {"0", math.MaxUint64, 0},
		{"1", 1, 0}, {"1", 2, 0}, {"1", math.MaxUint64, 0}, {"100", 1, 99}, {"0100", 1, 99}, {"1000", 999, 1},
		{"18446744073709551615", 0, math.MaxUint64}, {"18446744073709551615", 1, math.MaxUint64 - 1}, {"18446744073709551615", 1 << 63, 1<<63 - 1},
		{"18446744073709551615", math.MaxUint64 - 1, 1}, {"18446744073709551615", math.MaxUint64, 0}, {"18446744073709551614", math.MaxUint64, 0},
		{"9223372036854775808", 1 << 63, 0}, {"9223372036854775807", 1 << 63, 0}, {"9223372036854775809", 1 << 63, 1},
		{"10000000000000000000", 1, 9999999999999999999},
	} {
		turns(t, c.text, c.by, true, c.asked)
	}
}

// P17.2: up to the greatest number, and past it, where it begins anew from 0.
func TestTurnUp(t *testing.T) {
	for _, c := range []struct {
		text      string
		by, asked uint64
	}{
		{"10", 1, 11}, {"10", 3, 13}, {"0", 1, 1}, {"9", 1, 10}, {"99", 1, 100}, {"0", math.MaxUint64, math.MaxUint64}, {"1", math.MaxUint64 - 1, math.MaxUint64},
		{"1", math.MaxUint64, 0}, {"2", math.MaxUint64, 1}, {"10", math.MaxUint64, 9}, {"10", math.MaxUint64 - 9, 0}, {"10", math.MaxUint64 - 10, math.MaxUint64},
		{"18446744073709551614", 1, math.MaxUint64}, {"18446744073709551615", 1, 0}, {"18446744073709551615", 2, 1}, {"18446744073709551615", 10, 9},
		{"18446744073709551615", math.MaxUint64, math.MaxUint64 - 1}, {"9223372036854775808", 1 << 63, 0}, {"9223372036854775807", 1 << 63, math.MaxUint64},
		{"9223372036854775808", 1<<63 + 5, 5}, {"9999999999999999999", 1, 1e19}, {"007", 5, 12},
	} {
		turns(t, c.text, c.by, false, c.asked)
	}
}

// P17.2: each number at an edge by each.
func TestTurnEachByEach(t *testing.T) {
	l := []uint64{0, 1, 2, 9, 10, 11, 99, 100, 101, 1<<32 - 1, 1 << 32, 1<<63 - 1, 1 << 63, 1<<63 + 1, 1e19 - 1, 1e19, 1e19 + 1, math.MaxUint64 / 10, math.MaxUint64 - 10, math.MaxUint64 - 1, math.MaxUint64}
	for _, n := range l {
		for _, by := range l {
			for _, down := range []bool{false, true} {
				turn(t, decimal(n), by, down)
				turn(t, "0"+decimal(n), by, down)
			}
		}
	}
}

// P17.2: each small number by each small one.
func TestTurnSmall(t *testing.T) {
	for n := range uint64(120) {
		for by := range uint64(120) {
			turns(t, decimal(n), by, false, n+by)
			turns(t, decimal(n), by, true, uint64(max(0, int(n)-int(by))))
		}
	}
}

// P17.2: what is no number's text is not turned, whatever it is turned by.
func TestTurnOfNoNumber(t *testing.T) {
	for _, text := range []string{
		"", " ", "q", "x!", "+1", "-1", "1 ", " 1", "1.0", "1q", "q1", "\x00", "\xff", "1\x80", "\u0661", "\u0131", "\xc0\xb1",
		"18446744073709551616", "184467440737095516150", "99999999999999999999", "000000000000000000001", "000000000000000000000",
		strings.Repeat("1", 21), strings.Repeat("0", 512), strings.Repeat("0", 513), strings.Repeat("9", 1<<16),
	} {
		for _, by := range []uint64{0, 1, 1 << 63, math.MaxUint64} {
			for _, down := range []bool{false, true} {
				if got, n, err := item.Turn([]byte(text), by, down); got != nil || n != 0 || err != api.ErrNumber {
					t.Errorf("Turn(%q, %d, %t) is %q, %d, error %d", text[:min(len(text), 30)], by, down, got, n, err)
				}
			}
		}
	}
	for _, down := range []bool{false, true} {
		if got, n, err := item.Turn(nil, 1, down); got != nil || n != 0 || err != api.ErrNumber {
			t.Errorf("Turn(nil, 1, %t) is %q, %d, error %d", down, got, n, err)
		}
	}
}

// P17.2: every byte that is no digit, at each place.
func TestTurnOfEveryByte(t *testing.T) {
	for n := 1; n <= 20; n++ {
		for at := range n {
			for x := range 256 {
				b := []byte("10203040506070809000"[:n])
				b[at] = byte(x)
				turn(t, string(b), 1, x%2 == 0)
			}
		}
	}
}
