package item_test

import (
	"strings"
	"testing"

	"icehouse/api"
	"icehouse/item"
)

// P17.1: the chapter's examples of Expiry.
func TestExpiryExamples(t *testing.T) {
	for _, c := range []struct{ now, wish, asked uint32 }{
		{100, 0, 0},
		{100, 5, 105},
		{100, 2592001, 2592001},
		{4294967290, 100, 4294967295},
	} {
		if got := item.Expiry(c.now, c.wish); got != c.asked {
			t.Errorf("Expiry(%d, %d) is %d; asked is %d", c.now, c.wish, got, c.asked)
		}
	}
}

// P17.1: the chapter's examples of Expired.
func TestExpiredExamples(t *testing.T) {
	for _, c := range []struct {
		now, expiry uint32
		asked       bool
	}{
		{105, 105, true},
		{104, 105, false},
		{9, 0, false},
	} {
		if got := item.Expired(c.now, c.expiry); got != c.asked {
			t.Errorf("Expired(%d, %d) is %t", c.now, c.expiry, got)
		}
	}
}

// P17.1: the chapter's examples of Number.
func TestNumberExamples(t *testing.T) {
	for _, c := range []struct {
		text  string
		asked uint64
		err   api.Errno
	}{
		{"007", 7, api.OK},
		{"", 0, api.ErrNumber},
		{"18446744073709551616", 0, api.ErrNumber},
	} {
		if got, err := item.Number([]byte(c.text)); got != c.asked || err != c.err {
			t.Errorf("Number(%q) is %d, error %d", c.text, got, err)
		}
	}
}

// P17.2: the chapter's examples of Turn.
func TestTurnExamples(t *testing.T) {
	for _, c := range []struct {
		text  string
		by    uint64
		down  bool
		asked string
		n     uint64
	}{
		{"10", 3, false, "13", 13},
		{"10", 30, true, "0", 0},
		{"18446744073709551615", 1, false, "0", 0},
	} {
		if got, n, err := item.Turn([]byte(c.text), c.by, c.down); string(got) != c.asked || n != c.n || err != api.OK {
			t.Errorf("Turn(%q, %d, %t) is %q, %d, error %d", c.text, c.by, c.down, got, n, err)
		}
	}
}

// P17.3: ordinary values and keys.
func TestJoinAndCheckExamples(t *testing.T) {
	for _, c := range [][3]string{{"x", "!", "x!"}, {"!", "x", "!x"}, {"", "x", "x"}, {"x", "", "x"}, {"", "", ""}, {"\x00\xff", "\x80\x00", "\x00\xff\x80\x00"}} {
		if got, err := item.Join([]byte(c[0]), []byte(c[1])); string(got) != c[2] || err != api.OK {
			t.Errorf("Join(%q, %q) is %q, error %d", c[0], c[1], got, err)
		}
	}
	if got, err := item.Join([]byte("x"), []byte(strings.Repeat("y", 512))); got != nil || err != api.ErrLong {
		t.Errorf("Join of 1 and 512 bytes is %d bytes, error %d", len(got), err)
	}
	if a, b, c := item.Check([]byte("a"), []byte("x")), item.Check(nil, []byte("x")), item.Check([]byte("a"), make([]byte, 513)); a != api.OK || b != api.ErrArg || c != api.ErrLong {
		t.Errorf("Check: %d, %d, %d", a, b, c)
	}
}

// The model itself, by numbers that are worked out by hand.
func TestModel(t *testing.T) {
	for _, c := range []struct{ got, asked string }{
		{bare("000"), "0"}, {bare("0070"), "70"}, {bare(""), "0"},
		{sum("0", "0"), "0"}, {sum("999", "1"), "1000"}, {sum("1", "99"), "100"}, {sum(greatest, "1"), modulus},
		{sum(greatest, greatest), "36893488147419103230"},
		{difference("1000", "1"), "999"}, {difference("100", "100"), "0"}, {difference(modulus, greatest), "1"},
		{plainTurn("5", "7", true), "0"}, {plainTurn("7", "5", true), "2"}, {plainTurn("5", "7", false), "12"},
		{plainTurn(greatest, greatest, false), "18446744073709551614"},
	} {
		if c.got != c.asked {
			t.Errorf("the model says %s; asked is %s", c.got, c.asked)
		}
	}
	for _, c := range []struct {
		a, b string
		is   bool
	}{{"9", "10", true}, {"10", "9", false}, {"10", "10", false}, {"10", "11", true}, {greatest, modulus, true}} {
		if below(c.a, c.b) != c.is {
			t.Errorf("the model says that %s below %s is not %t", c.a, c.b, c.is)
		}
	}
}
