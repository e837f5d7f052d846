package item_test

import (
	"math"
	"slices"
	"testing"

	"icehouse/api"
	"icehouse/item"
)

// P17.4: Number of Text is the number; and the text has 1 to 20 digits, none of them a nought ahead.
func TestNumberOfText(t *testing.T) {
	back := func(n uint64) {
		t.Helper()
		text := item.Text(n)
		if got, err := item.Number(text); got != n || err != api.OK {
			t.Errorf("Number of Text(%d) is %d, error %d", n, got, err)
		}
		if len(text) < 1 || len(text) > 20 || len(text) > 1 && text[0] == '0' {
			t.Errorf("Text(%d) is %q", n, text)
		}
	}
	for n := range uint64(100000) {
		back(n)
		back(math.MaxUint64 - n)
	}
	for bit := range 64 {
		back(1 << bit)
		back(1<<bit - 1)
		back(1<<bit + 1)
	}
	d := draw(5)
	for range 300000 {
		back(d.any64())
	}
}

// P17.4: what has expired stays so; what has none never does.
func TestExpiredStays(t *testing.T) {
	d := draw(6)
	for range 20000 {
		e := d.any32()
		l := []uint32{0, e, math.MaxUint32}
		for range 10 {
			l = append(l, d.any32(e))
		}
		slices.Sort(l)
		ever := false
		for _, now := range l {
			is := item.Expired(now, e)
			if ever && !is {
				t.Errorf("what expires at %d has come back at %d", e, now)
			}
			ever = ever || is
		}
		if ever != (e != 0) {
			t.Errorf("what expires at %d has expired: %t", e, ever)
		}
	}
}

// P17.4: what is turned up and then down by the same is the number, if it did not pass the greatest; else it is 0.
func TestUpAndDown(t *testing.T) {
	upDown := func(n, by uint64) {
		t.Helper()
		up, _, err := item.Turn(item.Text(n), by, false)
		if err != api.OK {
			t.Errorf("Turn(%d, %d, up) is error %d", n, by, err)
		}
		asked := n
		if n > math.MaxUint64-by {
			asked = 0 // past the greatest it is below by
		}
		if got, m, err := item.Turn(up, by, true); string(got) != decimal(asked) || m != asked || err != api.OK {
			t.Errorf("%d, turned up and down by %d, is %q, %d, error %d", n, by, got, m, err)
		}
	}
	for _, n := range []uint64{0, 1, 1 << 63, math.MaxUint64 - 1, math.MaxUint64} {
		for _, by := range []uint64{0, 1, 1 << 63, math.MaxUint64 - 1, math.MaxUint64} {
			upDown(n, by)
		}
		upDown(n, math.MaxUint64-n)
		upDown(n, -n)
	}
	d := draw(7)
	for range 300000 {
		n := d.any64()
		upDown(n, d.any64())
		upDown(n, d.near(-n, n))
	}
}

// P17.4: a wish from 1 up to Month is never an expiry that is past: there is one, not ahead of now, and not now either, but at the last moment.
func TestWishIsNotPast(t *testing.T) {
	notPast := func(now, wish uint32) {
		t.Helper()
		e := item.Expiry(now, wish)
		if e < now || e == 0 || e == now && now != math.MaxUint32 {
			t.Errorf("Expiry(%d, %d) is %d", now, wish, e)
		}
		if now != math.MaxUint32 && item.Expired(now, e) {
			t.Errorf("a wish of %d has expired at %d", wish, now)
		}
	}
	for _, now := range moments() {
		for _, wish := range []uint32{1, 2, 100, api.Month - 1, api.Month} {
			notPast(now, wish)
		}
	}
	d := draw(8)
	for range 300000 {
		notPast(d.any32(), 1+uint32(d.Intn(api.Month)))
	}
}

// P17.4, R5: what a call answers hangs on its arguments alone: asked anew, whatever was asked between, it is the same.
func TestAskedAnew(t *testing.T) {
	d := draw(9)
	for range 2000 {
		text, by, now, wish := d.text(), d.any64(), d.any32(), d.any32()
		n, err := item.Number([]byte(text))
		up, m, upErr := item.Turn([]byte(text), by, false)
		e := item.Expiry(now, wish)
		item.Number([]byte(d.text()))
		item.Turn([]byte(d.text()), d.any64(), true)
		item.Text(d.any64())
		item.Join(d.list(5), d.list(600))
		item.Expiry(d.any32(), d.any32())
		if again, againErr := item.Number([]byte(text)); again != n || againErr != err {
			t.Errorf("Number(%q) is %d, then %d", text, n, again)
		}
		if again, k, againErr := item.Turn([]byte(text), by, false); string(again) != string(up) || k != m || againErr != upErr {
			t.Errorf("Turn(%q, %d, up) is %q, then %q", text, by, up, again)
		}
		if again := item.Expiry(now, wish); again != e {
			t.Errorf("Expiry(%d, %d) is %d, then %d", now, wish, e, again)
		}
	}
}
