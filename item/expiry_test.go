package item_test

import (
	"math"
	"testing"

	"icehouse/api"
	"icehouse/item"
)

// moments are those that the words name, and those beside them.
func moments() []uint32 {
	l := []uint32{0, 1, 2, 100, 1 << 16, 1 << 31}
	for _, edge := range []uint32{api.Month, 2 * api.Month, 1<<31 - 1, math.MaxUint32 - 2*api.Month, math.MaxUint32 - api.Month} {
		l = append(l, edge-2, edge-1, edge, edge+1, edge+2)
	}
	return append(l, math.MaxUint32-101, math.MaxUint32-100, math.MaxUint32-2, math.MaxUint32-1, math.MaxUint32)
}

// P17.1: of no wish there is no expiry, whatever the moment.
func TestExpiryOfNoWish(t *testing.T) {
	for _, now := range moments() {
		if got := item.Expiry(now, 0); got != 0 {
			t.Errorf("Expiry(%d, 0) is %d", now, got)
		}
	}
}

// P17.1: up to Month a wish is counted from now on; above, it is a moment, whether it is past or not.
func TestExpiryAtMonth(t *testing.T) {
	for _, c := range []struct{ now, wish, asked uint32 }{
		{0, 1, 1},
		{0, 2, 2},
		{0, 2591999, 2591999},
		{0, 2592000, 2592000},
		{0, 2592001, 2592001},
		{1, 1, 2},
		{1, 2591999, 2592000},
		{1, 2592000, 2592001},
		{1, 2592001, 2592001},
		{1, 2592002, 2592002},
		{2592000, 2592000, 5184000},
		{2592000, 2592001, 2592001},
		{2592001, 2592001, 2592001},
		{2592001, 1, 2592002},
		{3000000, 2592001, 2592001},
		{1000000000, 2592000, 1002592000},
		{1000000000, 2592001, 2592001},
		{1000000000, 1000000000, 1000000000},
		{1000000000, 4294967295, 4294967295},
		{0, 4294967295, 4294967295},
		{4294967295, 2592001, 2592001},
		{4294967295, 4294967294, 4294967294},
		{2147483648, 2147483648, 2147483648},
	} {
		if got := item.Expiry(c.now, c.wish); got != c.asked {
			t.Errorf("Expiry(%d, %d) is %d; asked is %d", c.now, c.wish, got, c.asked)
		}
	}
}

// P17.1: moment and wish come to the last moment, to one less, to more: beyond it no expiry goes, and none wraps round.
func TestExpiryAtTheLastMoment(t *testing.T) {
	for _, wish := range []uint32{1, 2, 3, 100, 65536, 2591999, 2592000} {
		last := math.MaxUint32 - wish
		for _, c := range []struct{ now, asked uint32 }{
			{last - 2, 4294967293},
			{last - 1, 4294967294},
			{last, 4294967295},
			{last + 1, 4294967295},
			{math.MaxUint32 - 1, 4294967295},
			{math.MaxUint32, 4294967295},
		} {
			if got := item.Expiry(c.now, wish); got != c.asked {
				t.Errorf("Expiry(%d, %d) is %d; asked is %d", c.now, wish, got, c.asked)
			}
		}
	}
}

// P17.1: nothing expires that has no expiry; all else does at its expiry, and not a second ahead of it.
func TestExpiredAtTheMoment(t *testing.T) {
	for _, now := range moments() {
		if item.Expired(now, 0) {
			t.Errorf("Expired(%d, 0)", now)
		}
		if got := item.Expired(now, now); got != (now > 0) {
			t.Errorf("Expired(%d, %d) is %t", now, now, got)
		}
		if now < math.MaxUint32 && item.Expired(now, now+1) {
			t.Errorf("Expired(%d, %d)", now, now+1)
		}
		if got := now > 0 && item.Expired(now, now-1); got != (now > 1) {
			t.Errorf("Expired(%d, %d) is %t", now, now-1, got)
		}
	}
	for _, c := range []struct {
		now, expiry uint32
		asked       bool
	}{
		{0, 1, false},
		{1, 1, true},
		{2, 1, true},
		{0, 4294967295, false},
		{4294967294, 4294967295, false},
		{4294967295, 4294967295, true},
		{4294967295, 4294967294, true},
		{4294967295, 1, true},
		{2147483647, 2147483648, false},
		{2147483648, 2147483647, true},
	} {
		if got := item.Expired(c.now, c.expiry); got != c.asked {
			t.Errorf("Expired(%d, %d) is %t", c.now, c.expiry, got)
		}
	}
}

// P17.1: each moment with each wish, and with each expiry.
func TestEachMoment(t *testing.T) {
	for _, now := range moments() {
		for _, other := range moments() {
			expired(t, now, other)
			expiry(t, now, other)
			e := expiry(t, now, math.MaxUint32-other)
			expired(t, other, e)
			expired(t, now, e)
		}
	}
}

// P17.1: each wish up to Month, at the first moments and at the last ones.
func TestEachWish(t *testing.T) {
	for wish := range uint32(api.Month + 3) {
		for _, now := range []uint32{0, 1, api.Month, math.MaxUint32 - api.Month/2} {
			expiry(t, now, wish)
		}
		for beside := range uint32(3) {
			expiry(t, math.MaxUint32-wish+beside-1, wish)
		}
	}
}
