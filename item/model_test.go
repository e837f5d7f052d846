package item_test

import (
	"bytes"
	"math"
	"math/rand"
	"slices"
	"strconv"
	"strings"
	"testing"

	"icehouse/api"
	"icehouse/item"
)

// The model reckons with decimal digits on paper: no number of the machine is as great as what a text can say, or as what a sum can come to.

const (
	greatest = "18446744073709551615" // 2^64 - 1
	modulus  = "18446744073709551616" // 2^64
)

// bare is the digits without noughts ahead; of nothing but noughts one is left.
func bare(digits string) string {
	if digits = strings.TrimLeft(digits, "0"); digits == "" {
		return "0"
	}
	return digits
}

// below tells whether a says less than b; both are bare.
func below(a, b string) bool {
	if len(a) != len(b) {
		return len(a) < len(b)
	}
	return a < b
}

// column is the digit at the place, counted from behind; ahead of all digits it is 0.
func column(digits string, place int) int {
	if place >= len(digits) {
		return 0
	}
	return int(digits[len(digits)-1-place] - '0')
}

// sum is a and b, column by column.
func sum(a, b string) string {
	var out []byte
	carried := 0
	for place := range max(len(a), len(b)) + 1 {
		carried += column(a, place) + column(b, place)
		out = append(out, byte('0'+carried%10))
		carried /= 10
	}
	slices.Reverse(out)
	return bare(string(out))
}

// difference is a less b, which is not above a, column by column.
func difference(a, b string) string {
	var out []byte
	borrowed := 0
	for place := range len(a) {
		left := column(a, place) - column(b, place) - borrowed
		borrowed = 0
		if left < 0 {
			left, borrowed = left+10, 1
		}
		out = append(out, byte('0'+left))
	}
	slices.Reverse(out)
	return bare(string(out))
}

// plainNumber is the number that the text says, bare; false, if it says none.
func plainNumber(text string) (string, bool) {
	if len(text) < 1 || len(text) > 20 {
		return "", false
	}
	for i := range len(text) {
		if !strings.Contains("0123456789", text[i:i+1]) {
			return "", false
		}
	}
	n := bare(text)
	return n, !below(greatest, n)
}

// plainTurn is what the bare number comes to.
func plainTurn(n, by string, down bool) string {
	switch {
	case down && below(n, by):
		return "0"
	case down:
		return difference(n, by)
	}
	n = sum(n, by)
	if below(greatest, n) {
		return difference(n, modulus)
	}
	return n
}

// plainExpiry is the words of Expiry, in numbers that have room.
func plainExpiry(now, wish uint32) uint32 {
	if wish == 0 {
		return 0
	}
	if wish <= 2592000 {
		return uint32(min(int64(now)+int64(wish), 4294967295))
	}
	return wish
}

// plainExpired is the words of Expired.
func plainExpired(now, expiry uint32) bool {
	return expiry > 0 && !(expiry > now)
}

// decimal is the number's digits, as the library has them.
func decimal(n uint64) string {
	return strconv.FormatUint(n, 10)
}

// expiry holds Expiry against the words.
func expiry(t *testing.T, now, wish uint32) uint32 {
	t.Helper()
	got := item.Expiry(now, wish)
	if asked := plainExpiry(now, wish); got != asked {
		t.Errorf("Expiry(%d, %d) is %d; asked is %d", now, wish, got, asked)
	}
	return got
}

// expired holds Expired against the words.
func expired(t *testing.T, now, expiry uint32) bool {
	t.Helper()
	got := item.Expired(now, expiry)
	if asked := plainExpired(now, expiry); got != asked {
		t.Errorf("Expired(%d, %d) is %t; asked is %t", now, expiry, got, asked)
	}
	return got
}

// number holds Number against the words.
func number(t *testing.T, text string) (uint64, api.Errno) {
	t.Helper()
	n, err := item.Number([]byte(text))
	asked, askedErr := "0", api.ErrNumber
	if plain, ok := plainNumber(text); ok {
		asked, askedErr = plain, api.OK
	}
	if decimal(n) != asked || err != askedErr {
		t.Errorf("Number(%q) is %d, error %d; asked is %s, error %d", text, n, err, asked, askedErr)
	}
	return n, err
}

// turn holds Turn against the words.
func turn(t *testing.T, text string, by uint64, down bool) ([]byte, api.Errno) {
	t.Helper()
	value, n, err := item.Turn([]byte(text), by, down)
	asked, askedNumber, askedErr := "", "0", api.ErrNumber
	if plain, ok := plainNumber(text); ok {
		asked = plainTurn(plain, decimal(by), down)
		askedNumber, askedErr = asked, api.OK
	}
	if string(value) != asked || decimal(n) != askedNumber || err != askedErr {
		t.Errorf("Turn(%q, %d, %t) is %q, %d, error %d; asked is %q, %s, error %d", text, by, down, value, n, err, asked, askedNumber, askedErr)
	}
	return value, err
}

// join holds Join against the words.
func join(t *testing.T, a, b []byte) ([]byte, api.Errno) {
	t.Helper()
	got, err := item.Join(a, b)
	asked, askedErr := []byte(string(a)+string(b)), api.OK
	if len(asked) > 512 {
		asked, askedErr = nil, api.ErrLong
	}
	if !bytes.Equal(got, asked) || err != askedErr {
		t.Errorf("Join of %d and %d bytes is %d bytes, error %d; asked is %d bytes, error %d", len(a), len(b), len(got), err, len(asked), askedErr)
	}
	return got, err
}

// check holds Check against the words.
func check(t *testing.T, key, value []byte) api.Errno {
	t.Helper()
	got, asked := item.Check(key, value), api.OK
	if len(value) > 512 {
		asked = api.ErrLong
	}
	if len(key) == 0 || len(key) > 250 {
		asked = api.ErrArg
	}
	if got != asked {
		t.Errorf("Check of %d and %d bytes is %d; asked is %d", len(key), len(value), got, asked)
	}
	return got
}

// run is so many bytes, each one more than the one ahead of it.
func run(first, n int) []byte {
	out := make([]byte, n)
	for i := range out {
		out[i] = byte(first + i)
	}
	return out
}

// drawn is a source of numbers that tells the same ones in every run.
type drawn struct{ *rand.Rand }

func draw(seed int64) drawn {
	return drawn{rand.New(rand.NewSource(seed))}
}

// near is a number by 0, 1 or 2 beside one of those, below it or above.
func (d drawn) near(l ...uint64) uint64 {
	return l[d.Intn(len(l))] + uint64(d.Intn(5)) - 2
}

// any64 is a number of any size, often one of those at which something changes.
func (d drawn) any64() uint64 {
	switch d.Intn(4) {
	case 0:
		return d.near(0, 1<<32, 1<<63, math.MaxUint64, 1e19, math.MaxUint64/10)
	case 1:
		power := uint64(1)
		for range d.Intn(20) {
			power *= 10
		}
		return d.near(power)
	}
	return d.Uint64() >> d.Intn(64)
}

// any32 is a number of any size, often one of those at which something changes, or beside one of the others.
func (d drawn) any32(others ...uint32) uint32 {
	l := []uint64{0, api.Month, 1 << 31, math.MaxUint32, math.MaxUint32 - api.Month}
	for _, other := range others {
		l = append(l, uint64(other), uint64(math.MaxUint32-other))
	}
	if d.Intn(2) == 0 {
		return uint32(d.near(l...))
	}
	return d.Uint32() >> d.Intn(32)
}

// text is digits, most often such as say a number; at times one byte of it is any.
func (d drawn) text() string {
	var b []byte
	switch d.Intn(4) {
	case 0:
		for range d.Intn(24) {
			b = append(b, byte('0'+d.Intn(10)))
		}
	case 1:
		b = []byte(sum(greatest, decimal(uint64(d.Intn(4)))))
	default:
		b = []byte(decimal(d.any64()))
	}
	if d.Intn(3) == 0 {
		b = append(bytes.Repeat([]byte("0"), d.Intn(6)), b...)
	}
	if d.Intn(4) == 0 && len(b) > 0 {
		b[d.Intn(len(b))] = byte(d.Intn(256))
	}
	return string(b)
}

// list is so many bytes of any kind.
func (d drawn) list(n int) []byte {
	out := make([]byte, n)
	d.Read(out)
	return out
}

// length is how many bytes a list has, often one at which something changes.
func (d drawn) length(edges ...int) int {
	if d.Intn(2) == 0 {
		return max(0, edges[d.Intn(len(edges))]+d.Intn(3)-1)
	}
	return d.Intn(600)
}

// P17.1: a long run of Expiry and Expired.
func TestRunOfExpiry(t *testing.T) {
	d := draw(1)
	for range 300000 {
		now := d.any32()
		e := expiry(t, now, d.any32(now))
		expired(t, now, e)
		expired(t, d.any32(now, e), e)
		expired(t, now, d.any32(now))
	}
}

// P17.1: a long run of Number and Text.
func TestRunOfNumber(t *testing.T) {
	d := draw(2)
	told, none := 0, 0
	for range 300000 {
		n, err := number(t, d.text())
		if err != api.OK {
			none++
			continue
		}
		told++
		if text := item.Text(n); string(text) != decimal(n) {
			t.Errorf("Text(%d) is %q", n, text)
		}
	}
	if told < 100000 || none < 50000 {
		t.Errorf("%d were numbers, %d were none", told, none)
	}
}

// P17.2: a long run of Turn, of one value that is turned on and on.
func TestRunOfTurn(t *testing.T) {
	d := draw(3)
	value, turned := "0", 0
	for range 200000 {
		if d.Intn(8) == 0 {
			value = d.text()
		}
		by := d.any64()
		if n, err := item.Number([]byte(value)); err == api.OK && d.Intn(3) == 0 {
			by = d.near(n, -n)
		}
		next, err := turn(t, value, by, d.Intn(2) == 0)
		if err == api.OK {
			value = string(next)
			turned++
		}
	}
	if turned < 100000 {
		t.Errorf("only %d turned", turned)
	}
}

// P17.3: a long run of Join and Check, of one value that grows at both ends.
func TestRunOfJoin(t *testing.T) {
	d := draw(4)
	var value []byte
	joined, long := 0, 0
	for range 100000 {
		more := d.list(d.length(0, 1, 511-len(value), 512-len(value), 512))
		a, b := value, more
		if d.Intn(2) == 0 {
			a, b = more, value
		}
		next, err := join(t, a, b)
		if err == api.OK {
			value = next
			joined++
		} else {
			value = value[:d.Intn(len(value)+1)]
			long++
		}
		check(t, d.list(d.length(0, 1, 250, 256)), d.list(d.length(0, 512)))
	}
	if joined < 20000 || long < 20000 {
		t.Errorf("%d joined, %d too long", joined, long)
	}
}
