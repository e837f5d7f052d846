package item_test

import (
	"math"
	"strings"
	"testing"

	"icehouse/api"
	"icehouse/item"
)

// says fails, unless the text is that number's.
func says(t *testing.T, text string, asked uint64) {
	t.Helper()
	if n, err := number(t, text); n != asked || err != api.OK {
		t.Errorf("Number(%q) is %d, error %d; the test asks for %d", text, n, err, asked)
	}
}

// saysNone fails, unless the text is no number's.
func saysNone(t *testing.T, text string) {
	t.Helper()
	if n, err := number(t, text); n != 0 || err != api.ErrNumber {
		t.Errorf("Number(%q) is %d, error %d; the test asks for ErrNumber", text, n, err)
	}
}

// P17.1: nil and empty lists are no text, whatever is in the room behind.
func TestNumberOfNothing(t *testing.T) {
	for _, value := range [][]byte{nil, {}, []byte("123")[:0], make([]byte, 0, 30)} {
		if n, err := item.Number(value); n != 0 || err != api.ErrNumber {
			t.Errorf("Number of nothing is %d, error %d", n, err)
		}
	}
}

// P17.1: each digit, at each place.
func TestNumberOfEachDigit(t *testing.T) {
	power := uint64(1)
	for place := range 19 {
		for digit := range uint64(10) {
			text := string(byte('0'+digit)) + strings.Repeat("0", place)
			says(t, text, digit*power)
			says(t, strings.Repeat("0", 19-place)+text, digit*power)
		}
		power *= 10
	}
	says(t, "1234567890", 1234567890)
	says(t, "9876543210", 9876543210)
	says(t, "10000000000000000000", 1e19)
}

// P17.1: texts of 1, 19, 20 and 21 digits.
func TestNumberOfLengths(t *testing.T) {
	for n := 1; n <= 40; n++ {
		for digit := range uint64(10) {
			text := strings.Repeat(string(byte('0'+digit)), n)
			// 11111111111111111111 is a number, 22222222222222222222 is above them all.
			if n <= 19 || n == 20 && digit < 2 {
				asked := uint64(0)
				for range n {
					asked = asked*10 + digit
				}
				says(t, text, asked)
			} else {
				saysNone(t, text)
			}
		}
	}
	says(t, "9999999999999999999", 9999999999999999999)
	says(t, "1844674407370955161", 1844674407370955161)
	says(t, "12345678901234567890", 12345678901234567890)
	saysNone(t, "123456789012345678901")
}

// P17.1: noughts ahead, up to 20 digits in all.
func TestNumberOfNoughts(t *testing.T) {
	for _, c := range []struct {
		text  string
		asked uint64
	}{
		{"0", 0}, {"1", 1}, {"7", 7}, {"10", 10}, {"100", 100}, {"4294967296", 1 << 32},
		{"9223372036854775808", 1 << 63}, {"9999999999999999999", 9999999999999999999}, {"18446744073709551615", math.MaxUint64},
	} {
		for noughts := range 30 {
			text := strings.Repeat("0", noughts) + c.text
			if len(text) <= 20 {
				says(t, text, c.asked)
			} else {
				saysNone(t, text)
			}
		}
	}
}

// P17.1: the greatest number, one less, one more, and what is more by more: some of these are small again, or are greater than their first digits, if they wrap round.
func TestNumberAtTheGreatest(t *testing.T) {
	says(t, "18446744073709551613", math.MaxUint64-2)
	says(t, "18446744073709551614", math.MaxUint64-1)
	says(t, "18446744073709551615", math.MaxUint64)
	for _, text := range []string{
		"18446744073709551616", "18446744073709551617", "18446744073709551618", "18446744073709551619", "18446744073709551620",
		"18446744073709551625", "18446744073709551626", "18446744073709551700",
		"20000000000000000000", "27670116110564327424", "30000000000000000000", "36893488147419103230", "36893488147419103232", "55340232221128654848",
		"73786976294838206464", "90000000000000000000", "92233720368547758080", "99999999999999999999",
		"184467440737095516150", "184467440737095516160", "018446744073709551615", "018446744073709551616",
		"100000000000000000000", "340282366920938463463374607431768211456",
	} {
		saysNone(t, text)
	}
}

// P17.1: the greatest number with one digit changed: at each place by each other one.
func TestNumberBesideTheGreatest(t *testing.T) {
	for _, from := range []string{greatest, modulus, "09999999999999999999", "10000000000000000000"} {
		for at := range len(from) {
			for digit := range 10 {
				b := []byte(from)
				b[at] = byte('0' + digit)
				number(t, string(b))
			}
		}
	}
}

// P17.1: every byte that is no digit, at each place of texts of each length.
func TestNumberOfEveryByte(t *testing.T) {
	for n := 1; n <= 21; n++ {
		for at := range n {
			for x := range 256 {
				b := []byte("18446744073709551615"[:min(n, 20)] + strings.Repeat("0", max(0, n-20)))
				b[at] = byte(x)
				if x < '0' || x > '9' {
					saysNone(t, string(b))
				} else {
					number(t, string(b))
				}
			}
		}
	}
}

// P17.1: every two bytes: runes of two bytes among them, and bytes that begin none.
func TestNumberOfTwoBytes(t *testing.T) {
	for x := range 256 {
		for y := range 256 {
			number(t, string([]byte{byte(x), byte(y)}))
			number(t, string([]byte{'1', byte(x), byte(y)}))
		}
	}
}

// P17.1: what looks like a number elsewhere: signs, points, other bases, blanks, digits of other scripts, runes whose lowest byte is a digit's.
func TestNumberOfOtherTexts(t *testing.T) {
	for _, text := range []string{
		"+1", "-1", "-0", "+0", "--1", "1-", "1.0", ".5", "1e3", "1E3", "0x10", "0X1F", "1F", "ff", "0b1", "0o7", "1_000", "1,000",
		" 1", "1 ", "1\n", "1\r\n", "\t1", "1\x00", "\x001", "\x00", " ", "q", "NaN", "Inf", "1 2", "/", ":", "0/", "0:", "9:", "/9",
		"\u0660", "\u0661\u0662", "1\u0663", "\u06f5", "\u0967", "\uff11", "\uff10\uff19", "\U0001d7ce", "\u00b2", "\u00bd", "\u2460",
		"\u0130", "\u0131", "\u0139", "\u0230", "\u0330", "\u1030", "\uff30", "\U00010030", "1\u01301",
		"\u00b0", "\u00b9", "\xb0", "\xb1", "\xb9", "\xc0\xb0", "\xc0\xb9", "\xe0\x80\xb0", "\xff", "\xed\xa0\x80", "1\x80", "\x801", "\ufffd", "\xc4",
	} {
		saysNone(t, text)
	}
}

// P17.1: a number's digits, without noughts ahead.
func TestText(t *testing.T) {
	for n, asked := range map[uint64]string{
		0: "0", 1: "1", 2: "2", 7: "7", 9: "9", 10: "10", 11: "11", 19: "19", 20: "20", 42: "42", 99: "99", 100: "100", 101: "101", 109: "109", 110: "110",
		255: "255", 256: "256", 999: "999", 1000: "1000", 1001: "1001", 65535: "65535", 1234567890: "1234567890", 9876543210: "9876543210",
		math.MaxUint32: "4294967295", 1 << 32: "4294967296", 1<<63 - 1: "9223372036854775807", 1 << 63: "9223372036854775808",
		999999999999999999: "999999999999999999", 1000000000000000000: "1000000000000000000", 9999999999999999999: "9999999999999999999",
		10000000000000000000: "10000000000000000000", 12345678901234567890: "12345678901234567890",
		math.MaxUint64 - 1: "18446744073709551614", math.MaxUint64: "18446744073709551615",
	} {
		if got := item.Text(n); string(got) != asked {
			t.Errorf("Text(%d) is %q", n, got)
		}
	}
}

// P17.1: the numbers at which a text gets one digit more, and those beside them; and the first ones.
func TestTextOfLengths(t *testing.T) {
	same := func(n uint64) {
		t.Helper()
		if got := item.Text(n); string(got) != decimal(n) {
			t.Errorf("Text(%d) is %q", n, got)
		}
	}
	power := uint64(1)
	for digits := 1; digits <= 20; digits++ {
		for digit := range uint64(10) {
			same(digit * power)
			same(digit*power + 1)
			same(digit*power - 1)
		}
		if got := item.Text(power); len(got) != digits {
			t.Errorf("Text(%d) has %d digits", power, len(got))
		}
		power *= 10
	}
	for n := range uint64(20000) {
		same(n)
		same(math.MaxUint64 - n)
	}
}
