package store_test

import (
	"math"
	"slices"
	"strconv"
	"testing"

	"icehouse/api"
	"icehouse/ring"
)

// P14.3: an Expiry of 0 never comes; any other one has come when it is now, or less.
func TestGetExpiry(t *testing.T) {
	w := fresh(t, 16, 64, 64)
	moments := []uint32{0, 1, 2, 99, 100, 101, 1 << 31, math.MaxUint32 - 1, math.MaxUint32}
	for i, expiry := range moments {
		ok(t, w.put(t, until(item("k"+strconv.Itoa(i), i, uint64(i+1)), expiry)))
	}
	for i, expiry := range moments {
		for _, now := range moments {
			want := api.OK
			if expiry > 0 && expiry <= now {
				want = api.ErrNone
			}
			x, err := w.get(t, "k"+strconv.Itoa(i), now)
			if err != want || (err == api.OK) != (x.Seq == uint64(i+1)) {
				t.Errorf("an Expiry of %d at %d: %s, error %d", expiry, now, told(x), err)
			}
		}
	}
	// What has expired keeps its entry, and is there again at an earlier moment.
	if w.s.Len() != len(moments) {
		t.Errorf("Len is %d", w.s.Len())
	}
	w.has(t, until(item("k2", 2, 3), 2))
}

// P14.3, P14.4: void is what has a Seq up to what is known as Flush.
func TestGetVoid(t *testing.T) {
	seqs := []uint64{1, 2, 9, 10, 11, 12, math.MaxUint64 - 1, math.MaxUint64}
	for _, flush := range append([]uint64{0}, seqs...) {
		w := fresh(t, 4, 24, 64)
		for i, seq := range seqs {
			ok(t, w.put(t, item("k"+strconv.Itoa(i), 3, seq)))
		}
		ok(t, w.flush(t, flush))
		for i, seq := range seqs {
			key := "k" + strconv.Itoa(i)
			if seq <= flush {
				w.hasNone(t, key)
			} else {
				w.has(t, item(key, 3, seq))
			}
			if !w.may(t, key) {
				t.Errorf("%q is denied, and has an entry", key)
			}
			// What is put with such a Seq behind the Flush is void, too.
			x := item(key, 4, seq)
			ok(t, w.put(t, x))
			if seq <= flush {
				w.hasNone(t, key)
			} else {
				w.has(t, x)
			}
		}
		if w.s.Len() != len(seqs) {
			t.Errorf("Len is %d", w.s.Len())
		}
	}
}

// P14.3: void and expired, one of both, none.
func TestGetBoth(t *testing.T) {
	w := fresh(t, 4, 24, 8)
	for i := range 4 {
		ok(t, w.put(t, until(item("k"+strconv.Itoa(i), 1, uint64(i+1)), uint32(i%2)*50)))
	}
	ok(t, w.flush(t, 2))
	for i, want := range []api.Errno{api.ErrNone, api.ErrNone, api.OK, api.ErrNone} {
		_, err := w.get(t, "k"+strconv.Itoa(i), 50)
		is(t, err, want)
	}
	_, err := w.get(t, "k3", 49)
	is(t, err, api.OK)
}

// P14.3: keys that no item has, and such as none can have.
func TestGetNone(t *testing.T) {
	w := fresh(t, 4, 24, 8)
	long := string(make([]byte, 251))
	for range 2 {
		for _, key := range []string{"", "b", "A", "a\x00", "\x00a", "aa", long, long[:250], strange, kin[0], kin[1]} {
			w.hasNone(t, key)
			if w.may(t, key) && w.s.Len() == 0 {
				t.Errorf("%q may be in a store without items", key)
			}
		}
		ok(t, w.put(t, item("a", 1, 1)))
	}
	// The empty key has the finger of one that is there.
	if fingerOf("") != fingerOf(strange) {
		t.Fatal("the fingers are unlike")
	}
	ok(t, w.put(t, item(strange, 1, 2)))
	ops := w.d.Ops()
	w.hasNone(t, "")
	if w.d.Ops() == ops {
		t.Error("the record was not asked for its key")
	}
	w.fail(0)
	_, err := w.get(t, "", 0)
	is(t, err, api.ErrIo)
	w.hasNone(t, "")
	is(t, w.put(t, item("", 1, 3)), api.ErrItem)
	is(t, w.kill(t, "", 3), api.ErrRecord)
	w.has(t, item(strange, 1, 2))
}

// P14.3: what Get tells is new memory each time.
func TestGetNew(t *testing.T) {
	w := fresh(t, 4, 24, 8)
	x := item("abc", 100, 1)
	ok(t, w.put(t, x))
	a, _ := w.s.Get([]byte("abc"), 0)
	b, _ := w.s.Get([]byte("abc"), 0)
	spoil(a)
	x.Dirty = false
	if !same(b, x) {
		t.Errorf("it is %s", told(b))
	}
	turn(b.Key)
	if !slices.Equal(b.Value, x.Value) {
		t.Error("the value shares its room with the key")
	}
}

// P14.3: May is just the filters' answer: of keys that were put it is true, of most others it is not; nothing takes a key out but Retire.
func TestMay(t *testing.T) {
	w := fresh(t, 8, 24, 200)
	for i := range 60 {
		key := "k" + strconv.Itoa(i)
		ok(t, w.put(t, item(key, 1, uint64(i+1))))
		for j := range 200 {
			if may := w.may(t, "k"+strconv.Itoa(j)); j <= i && !may {
				t.Fatalf("k%d, which is there, is denied", j)
			}
		}
	}
	denied := 0
	for i := range 1000 {
		if !w.may(t, "other"+strconv.Itoa(i)) {
			denied++
		}
	}
	if denied < 900 {
		t.Errorf("of 1000 keys that aren't there %d are denied", denied)
	}
	for i := range 60 {
		key := "k" + strconv.Itoa(i)
		for ring.Frees(w.s.Log().Ring()) < 2 && w.oldest() >= 0 {
			ok(t, w.clean(t))
		}
		ok(t, w.kill(t, key, uint64(i+100)))
		if i < 59 && !w.may(t, "k59") {
			t.Fatal("k59, which is there, is denied")
		}
	}
	for w.oldest() >= 0 {
		ok(t, w.retire(t, w.oldest()))
	}
	for i := range 60 {
		w.may(t, "k"+strconv.Itoa(i))
	}
}

// P14.3: a tombstone is in no filter, nor is what could not be put or moved.
func TestMayTomb(t *testing.T) {
	w := fresh(t, 4, 24, 1)
	ok(t, w.kill(t, "a", 1))
	if w.may(t, "a") {
		t.Error("a key that was killed alone may be there")
	}
	ok(t, w.put(t, item("b", 1, 2)))
	is(t, w.put(t, item("c", 1, 3)), api.ErrFull)
	is(t, w.put(t, item("d", 1, 0)), api.ErrItem)
	is(t, w.move(t, at(0, 1, 1, item("e", 1, 1))), api.ErrNone)
	for _, key := range []string{"c", "d", "e"} {
		if w.may(t, key) {
			t.Errorf("%q may be there", key)
		}
	}
	w.fail(0)
	is(t, w.put(t, item("b", 2, 4)), api.ErrIo)
	if !w.may(t, "b") {
		t.Error("b, which is there, is denied")
	}
}

// P14.3: a key that was moved may be in both segments; when the elder one is retired it may be in the other one still.
func TestMayMoved(t *testing.T) {
	w := fresh(t, 4, 24, 8)
	a, b := sized("a", 17, 1), sized("b", 17, 2)
	ok(t, w.put(t, a))
	ok(t, w.put(t, b))
	ok(t, w.move(t, w.placed(t, string(a.Key))))
	ok(t, w.retire(t, 0))
	w.has(t, a)
	w.has(t, b)
	ok(t, w.retire(t, 1))
	w.has(t, a)
	w.hasNone(t, string(b.Key))
	if w.may(t, string(b.Key)) {
		t.Error("b may be there")
	}
}

// P14.3: a filter has FilterBits bits: in segments that are full of keys some that aren't there may be, just those whose bits are all taken.
func TestMayBits(t *testing.T) {
	w := fresh(t, 16, 64, 1024)
	for i := range 16 * 63 {
		ok(t, w.put(t, item("k"+strconv.Itoa(i), 2, uint64(i+1))))
	}
	may := 0
	for i := range 2000 {
		if w.may(t, "other"+strconv.Itoa(i)) {
			may++
		}
	}
	if may < 20 || may > 200 {
		t.Errorf("of 2000 keys that aren't there %d may be", may)
	}
}
