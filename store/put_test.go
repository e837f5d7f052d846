package store_test

import (
	"bytes"
	"math"
	"strconv"
	"testing"

	"icehouse/api"
)

// P14.2: keys, values and sequences at their limits, and one beyond; which error goes ahead.
func TestPutLimits(t *testing.T) {
	w := fresh(t, 16, 64, 64)
	n := 0
	for _, key := range []int{0, 1, 2, 249, 250, 251, 252, 506, 65537} {
		for _, value := range []int{0, 1, 511, 512, 513, 514, 65536} {
			for _, seq := range []uint64{0, 1, math.MaxUint64} {
				x := item("", value, seq)
				x.Key = bytes.Repeat([]byte{'k', byte(n)}, key)[:key]
				if key < 1 || key > 250 || value > 512 || seq == 0 {
					is(t, w.put(t, x), api.ErrItem)
					continue
				}
				ok(t, w.put(t, x))
				w.has(t, x)
				n++
			}
		}
	}
	if w.s.Len() == 0 || n < 30 {
		t.Errorf("%d were put", n)
	}
	is(t, w.put(t, api.Item{}), api.ErrItem)
	is(t, w.put(t, api.Item{Key: []byte("a"), Dirty: true}), api.ErrItem)
	is(t, w.put(t, api.Item{Seq: 1}), api.ErrItem)
}

// P14.2, P14.3: what is put is got byte for byte, with all its fields, whatever the bytes are; Dirty or not, it is got not Dirty.
func TestPutGet(t *testing.T) {
	w := fresh(t, 16, 64, 300)
	for i := range 256 {
		x := api.Item{Key: []byte{byte(i)}, Value: []byte{byte(255 - i), 0, byte(i)}, Flags: math.MaxUint32 - uint32(i), Expiry: math.MaxUint32 - uint32(i), Seq: math.MaxUint64 - uint64(i), Dirty: i%2 > 0}
		ok(t, w.put(t, x))
		w.has(t, x)
	}
	for i := range 256 {
		key := []byte{byte(i)}
		w.has(t, api.Item{Key: key, Value: []byte{byte(255 - i), 0, byte(i)}, Flags: math.MaxUint32 - uint32(i), Expiry: math.MaxUint32 - uint32(i), Seq: math.MaxUint64 - uint64(i)})
	}
	w.holds(t)
}

// P14.2: records of each size, laid where the log says.
func TestPutSizes(t *testing.T) {
	for sectors := 1; sectors <= 17; sectors++ {
		w := fresh(t, 4, 24, 100)
		var put []api.Item
		for i := range 4 * (23 / sectors) {
			x := sized(strconv.Itoa(i)+" ", sectors, uint64(i+1))
			ok(t, w.put(t, x))
			put = append(put, x)
		}
		is(t, w.put(t, sized("?", sectors, 99)), api.ErrFull)
		for _, x := range put {
			w.has(t, x)
		}
		w.holds(t)
	}
}

// P14.2: of a key that is there the elder one is gone, whatever the sequences are; it takes no slot.
func TestPutAgain(t *testing.T) {
	w := fresh(t, 8, 64, 2)
	for i, seq := range []uint64{5, 6, 6, 7, 1, math.MaxUint64, 2} {
		x := item("a", 10*i, seq)
		ok(t, w.put(t, x))
		w.has(t, x)
		if w.s.Len() != 1 {
			t.Fatalf("Len is %d", w.s.Len())
		}
	}
	all := w.all(t)
	for i, p := range all {
		if w.live(t, p) != (i == len(all)-1) {
			t.Errorf("the put of number %d is live, or not", i)
		}
	}
}

// P14.2: the last slot; a full index takes what it has a key of, and nothing else; behind a Kill it has a slot.
func TestPutSlots(t *testing.T) {
	for _, slots := range []int{1, 2, 3, 7} {
		w := fresh(t, 16, 64, slots)
		for i := range slots {
			is(t, w.put(t, item("k"+strconv.Itoa(i), 3, uint64(i+1))), api.OK)
		}
		for round := range 3 {
			used := w.p.log.Ring().Segs[0].Used
			is(t, w.put(t, item("more", 3, 50)), api.ErrFull)
			if now := w.s.Log().Ring().Segs[0].Used; now != used {
				t.Errorf("a Put that has no slot has written")
			}
			w.hasNone(t, "more")
			if w.may(t, "more") != w.p.may("more") {
				t.Error("a Put that has no slot is in a filter")
			}
			x := item("k"+strconv.Itoa(round%slots), 4, uint64(60+round))
			ok(t, w.put(t, x))
			w.has(t, x)
		}
		ok(t, w.kill(t, "k0", 70))
		ok(t, w.put(t, item("more", 3, 71)))
		is(t, w.put(t, item("k0", 3, 72)), api.ErrFull)
		w.has(t, item("more", 3, 71))
	}
}

// P14.2: all slots there may be.
func TestPutMaxSlots(t *testing.T) {
	w := fresh(t, 16, 64, 1024)
	n := 0
	for i := range 16 * 63 {
		ok(t, w.put(t, item("k"+strconv.Itoa(i), 2, uint64(i+1))))
		n++
	}
	is(t, w.put(t, item("full", 2, 5000)), api.ErrFull)
	if w.s.Len() != n || w.s.Left() != 1024-n {
		t.Errorf("Len is %d, Left %d", w.s.Len(), w.s.Left())
	}
	for i := range n {
		w.has(t, item("k"+strconv.Itoa(i), 2, uint64(i+1)))
	}
}

// P14.2, P14.4, P14.5: a log that is full: ErrFull, and nothing has changed; what still has room in it is taken.
func TestFullLog(t *testing.T) {
	w := fresh(t, 4, 24, 9)
	for i, name := range []string{"a", "b", "c"} {
		ok(t, w.put(t, sized(name, 17, uint64(i+1))))
	}
	ok(t, w.put(t, sized("d", 10, 4)))
	ok(t, w.put(t, sized("e", 12, 5)))
	small := sized("f", 1, 6)
	is(t, w.put(t, sized("f", 2, 6)), api.ErrFull)
	is(t, w.put(t, sized("e", 2, 6)), api.ErrFull) // of a key that is there
	w.has(t, sized("e", 12, 5))
	is(t, w.move(t, w.placed(t, "d")), api.ErrFull)
	w.has(t, sized("d", 10, 4))
	ok(t, w.put(t, small))
	is(t, w.kill(t, "d", 7), api.ErrFull)
	is(t, w.kill(t, "none", 7), api.ErrFull)
	w.has(t, sized("d", 10, 4))
	is(t, w.put(t, sized("f", 1, 7)), api.ErrFull)
	w.has(t, small)
	if w.s.Degraded() {
		t.Error("the store is degraded")
	}
	w.holds(t)
	ok(t, w.flush(t, 1))
	ok(t, w.sync(t))
	ok(t, w.retire(t, 0))
	ok(t, w.kill(t, "d", 8))
	ok(t, w.put(t, sized("f", 12, 9)))
	w.hasNone(t, "d")
	w.has(t, sized("f", 12, 9))
}

// P14.2: both the index and the log are full: ErrFull, of each; what has a slot is written if the log has room.
func TestFullBoth(t *testing.T) {
	w := fresh(t, 4, 24, 4)
	for i, name := range []string{"a", "b", "c", "d"} {
		ok(t, w.put(t, sized(name, 17, uint64(i+1))))
	}
	is(t, w.put(t, sized("e", 1, 5)), api.ErrFull)
	is(t, w.put(t, sized("e", 17, 5)), api.ErrFull)
	again := item("a", 2, 6)
	is(t, w.put(t, again), api.ErrFull) // of another key: a's is longer
	again.Key = sized("a", 17, 1).Key
	again.Value = nil
	ok(t, w.put(t, again))
	w.has(t, again)
	w.holds(t)
}

// P14.2: what is put is safe behind the next Sync: behind each crash from then on it is there; without one it is there or not.
func TestPutSafe(t *testing.T) {
	a, b := item("a", 100, 1), item("b", 100, 2)
	for n := range 1 << 4 {
		w := fresh(t, 4, 24, 4)
		ok(t, w.put(t, a))
		ok(t, w.sync(t))
		ok(t, w.put(t, b))
		keep := make([]bool, len(w.d.Pending()))
		for i := range keep {
			keep[i] = n>>i&1 > 0
		}
		if len(keep) != 3 {
			t.Fatalf("%d writes are pending", len(keep))
		}
		w = w.crash(t, keep)
		w.has(t, a)
		if n&7 == 7 {
			w.has(t, b)
		} else {
			w.hasNone(t, "b")
		}
	}
}
