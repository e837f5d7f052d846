package item_test

import (
	"bytes"
	"testing"

	"icehouse/api"
	"icehouse/item"
)

// roomy is the text at the begin of a longer list of those bytes; the whole list is told, too.
func roomy(text string, behind byte) (value, whole []byte) {
	whole = append([]byte(text), bytes.Repeat([]byte{behind}, 600)...)
	return whole[:len(text)], whole
}

// spoil overwrites an answer, and the room behind it.
func spoil(b []byte) {
	b = b[:cap(b)]
	for i := range b {
		b[i] = '#'
	}
}

// texts are values of all kinds: numbers, and what is none.
func texts() []string {
	return []string{"", "0", "7", "007", "10", "99", "x", "1x", "\xff", "\u0661", "9999999999999999999", greatest, modulus, "00000000000000000007", "000000000000000000007", string(run(1, 512))}
}

// P17.1, R3: Number looks at no byte behind the value's end, and changes none.
func TestNumberKeepsNothing(t *testing.T) {
	for _, text := range texts() {
		asked, askedErr := number(t, text)
		for _, behind := range []byte{0, '0', '9', 'x', 255} {
			value, whole := roomy(text, behind)
			before := bytes.Clone(whole)
			if n, err := item.Number(value); n != asked || err != askedErr {
				t.Errorf("Number(%q) with %x behind is %d, error %d", text, behind, n, err)
			}
			if !bytes.Equal(whole, before) {
				t.Errorf("Number(%q) has changed what was handed in", text)
			}
		}
	}
}

// P17.1, R3: each text is new memory.
func TestTextIsNew(t *testing.T) {
	for _, n := range []uint64{0, 7, 10, 12345, 1e19, 1<<64 - 1} {
		first, second := item.Text(n), item.Text(n)
		spoil(first)
		if string(second) != decimal(n) {
			t.Errorf("Text(%d) is shared with another answer", n)
		}
		if third := item.Text(n); string(third) != decimal(n) {
			t.Errorf("Text(%d) behind a spoilt one is %q", n, third)
		}
	}
}

// P17.2, R3: Turn neither changes nor keeps the value, nor the room behind it; each answer is new memory, where nothing is turned too.
func TestTurnKeepsNothing(t *testing.T) {
	for _, text := range texts() {
		for _, by := range []uint64{0, 1, 5, 1<<64 - 1} {
			for _, down := range []bool{false, true} {
				asked, askedErr := turn(t, text, by, down)
				for _, behind := range []byte{0, '0', '9', 255} {
					value, whole := roomy(text, behind)
					before := bytes.Clone(whole)
					first, _, err := item.Turn(value, by, down)
					second, _, _ := item.Turn(value, by, down)
					if !bytes.Equal(first, asked) || err != askedErr {
						t.Errorf("Turn(%q, %d, %t) with %x behind is %q, error %d", text, by, down, behind, first, err)
					}
					spoil(first)
					if !bytes.Equal(whole, before) {
						t.Errorf("Turn(%q, %d, %t) has changed what was handed in, or shares it", text, by, down)
					}
					spoil(whole)
					if !bytes.Equal(second, asked) {
						t.Errorf("Turn(%q, %d, %t) shares its answer", text, by, down)
					}
				}
			}
		}
	}
}

// P17.3, R3: Join neither changes nor keeps the lists, nor the room behind them, in which the other one has place; each answer is new memory, where one list has no bytes too.
func TestJoinKeepsNothing(t *testing.T) {
	for _, a := range texts() {
		for _, b := range texts() {
			asked, askedErr := join(t, []byte(a), []byte(b))
			x, wholeX := roomy(a, 'r')
			y, wholeY := roomy(b, 's')
			beforeX, beforeY := bytes.Clone(wholeX), bytes.Clone(wholeY)
			first, err := item.Join(x, y)
			second, _ := item.Join(x, y)
			if !bytes.Equal(first, asked) || err != askedErr {
				t.Errorf("Join(%q, %q) is %q, error %d", a, b, first, err)
			}
			spoil(first)
			if !bytes.Equal(wholeX, beforeX) || !bytes.Equal(wholeY, beforeY) {
				t.Errorf("Join(%q, %q) has changed what was handed in, or shares it", a, b)
			}
			spoil(wholeX)
			spoil(wholeY)
			if !bytes.Equal(second, asked) {
				t.Errorf("Join(%q, %q) shares its answer", a, b)
			}
		}
	}
}

// P17.3, R3: what Join is handed can be pieces of one list, one right behind the other.
func TestJoinOfPieces(t *testing.T) {
	whole := run(0, 300)
	for at := range len(whole) {
		got, err := item.Join(whole[:at], whole[at:])
		if !bytes.Equal(got, run(0, 300)) || err != api.OK {
			t.Errorf("Join of the pieces at %d is % x, error %d", at, got, err)
		}
		spoil(got)
		if !bytes.Equal(whole, run(0, 300)) {
			t.Fatalf("Join of the pieces at %d shares what was handed in", at)
		}
	}
}

// P17.3, R3: Check looks at the lists' lengths, not at the room behind, and changes nothing.
func TestCheckKeepsNothing(t *testing.T) {
	for _, key := range []int{0, 1, 250, 251} {
		for _, value := range []int{0, 512, 513} {
			x, wholeX := roomy(string(run(0, key)), 'r')
			y, wholeY := roomy(string(run(0, value)), 's')
			beforeX, beforeY := bytes.Clone(wholeX), bytes.Clone(wholeY)
			if got, asked := item.Check(x, y), check(t, run(0, key), run(0, value)); got != asked {
				t.Errorf("Check of %d and %d bytes with room behind is %d; asked is %d", key, value, got, asked)
			}
			if !bytes.Equal(wholeX, beforeX) || !bytes.Equal(wholeY, beforeY) {
				t.Errorf("Check of %d and %d bytes has changed what was handed in", key, value)
			}
		}
	}
}
