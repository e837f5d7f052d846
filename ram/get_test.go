package ram_test

import (
	"bytes"
	"strconv"
	"strings"
	"testing"

	"icehouse/api"
)

// strangers are keys that no item has, if there are items a, bc and one of the longest.
func strangers() [][]byte {
	long := bytes.Repeat([]byte("l"), 250)
	return [][]byte{
		nil, {}, {0}, []byte("A"), []byte("b"), []byte("c"), []byte("aa"), []byte("a\x00"), []byte("\x00a"), []byte("bcd"), []byte("cb"), []byte("BC"),
		long[:249], append(bytes.Clone(long), 'l'), append(bytes.Clone(long), "ll"...), append(bytes.Clone(long[:249]), 'm'), bytes.Repeat([]byte("l"), 500), bytes.Repeat([]byte("a"), 100000),
	}
}

// P13.3: of a key that no item has all of them are ErrNone, and nothing is changed: with no items, with some, and behind they were removed.
func TestGetWrong(t *testing.T) {
	w := of(t, 3)
	keys := []string{"a", "bc", strings.Repeat("l", 250)}
	for lap := range 2 {
		for _, key := range append(strangers(), []byte("a"), []byte("bc"), []byte(keys[2])) {
			w.misses(t, key)
		}
		w.tells(t)
		for i, key := range keys {
			w.puts(t, item(key, 150*lap+i, uint64(i+1)))
		}
		for _, key := range strangers() {
			w.misses(t, key)
			w.tells(t)
		}
		w.same(t)
		for _, key := range keys {
			w.removes(t, key)
			w.misses(t, []byte(key))
		}
		w.has(t)
	}
}

// P13.3: Get makes the item the newest of its class, wherever it stands, and changes nothing of the others' order.
func TestGet(t *testing.T) {
	w := of(t, 3, item("a", 1, 1), item("b", 1, 2), item("x", 20, 3), item("c", 1, 4), item("y", 20, 5), item("d", 1, 6))
	w.has(t, "d", "c", "b", "a", "y", "x")
	w.gets(t, "a") // the oldest
	w.has(t, "a", "d", "c", "b", "y", "x")
	w.gets(t, "a") // the newest
	w.has(t, "a", "d", "c", "b", "y", "x")
	w.gets(t, "c") // from between
	w.has(t, "c", "a", "d", "b", "y", "x")
	w.gets(t, "x")
	w.has(t, "c", "a", "d", "b", "x", "y")
	w.gets(t, "b")
	w.gets(t, "d")
	w.has(t, "d", "b", "c", "a", "x", "y")
	w.same(t)
}

// P13.3: Peek leaves all where it is.
func TestPeek(t *testing.T) {
	w := of(t, 3, item("a", 1, 1), item("b", 1, 2), item("x", 20, 3), item("c", 1, 4), item("y", 20, 5))
	for _, key := range []string{"a", "b", "c", "x", "y", "a", "a", "c", "b", "x", "x"} {
		w.peeks(t, key)
		w.has(t, "c", "b", "a", "y", "x")
	}
}

// P13.3: what was got stays, what was peeked at is put out all the same; of each class.
func TestGetAgainstPeek(t *testing.T) {
	for class, n := range chunks[:7] {
		for at := range n {
			key, next := "k"+strconv.Itoa(at), "k0"
			if at == 0 {
				next = "k1"
			}
			w := of(t, 1, page(t, "k", class, 1)...)
			w.gets(t, key)
			w.puts(t, one(t, "x", class, 99), next)
			w = of(t, 1, page(t, "k", class, 1)...)
			w.peeks(t, key)
			w.puts(t, one(t, "x", class, 99), "k0")
			w.same(t)
		}
	}
}

// P13.3: who is got again and again stays, whatever comes; the one that is only peeked at goes with the others.
func TestGetKeeps(t *testing.T) {
	w := of(t, 2, item("a", 400, 1), item("b", 400, 2), item("c", 400, 3), item("d", 400, 4))
	out := []string{"b", "c", "d", "k0", "k1", "k2", "k3", "k4", "k5", "k6"}
	for i := range out {
		w.gets(t, "a")
		w.peeks(t, out[i])
		w.puts(t, item("k"+strconv.Itoa(i), 400, uint64(i+5)), out[i])
	}
	w.same(t)
}

// P13.3: what is removed is gone, from each place of its class, and can be put again.
func TestRemove(t *testing.T) {
	for at := range 5 {
		w := of(t, 2, append(several(t, "k", 5, 30, 1), item("x", 20, 9), item("y", 20, 10))...)
		key := "k" + strconv.Itoa(at)
		w.removes(t, key)
		w.misses(t, []byte(key))
		w.same(t)
		if n, charge := w.m.Len(), w.m.Charge(); n != 6 || charge != 4*30+2*45 {
			t.Errorf("without %s Len is %d, Charge %d", key, n, charge)
		}
		w.removes(t, "y")
		w.misses(t, []byte("y"))
		w.puts(t, item(key, 3, 11))
		w.same(t)
		w.gets(t, key)
		w.removes(t, key)
		w.misses(t, []byte(key))
	}
}

// P13.3: all are removed, one behind the other, and others come.
func TestRemoveAll(t *testing.T) {
	for class, n := range chunks {
		w := of(t, 2)
		for lap := range 3 {
			for _, x := range several(t, "k", 2*n, min(sizes[class], 500), uint64(lap*100+1)) {
				w.puts(t, x)
			}
			for i := range 2 * n {
				if lap%2 == 1 { // from the newest on
					i = 2*n - 1 - i
				}
				w.removes(t, "k"+strconv.Itoa(i))
				w.tells(t)
			}
			w.has(t)
			w.same(t)
		}
	}
}

// P13.3: Clean makes the item not Dirty, and nothing else: it stands where it stood, and all others are as they were.
func TestClean(t *testing.T) {
	dirty := func(key string, size int, seq uint64) api.Item {
		x := item(key, size, seq)
		x.Dirty = true
		return x
	}
	w := of(t, 3, dirty("a", 1, 1), dirty("b", 1, 2), dirty("x", 20, 3), dirty("c", 1, 4), dirty("y", 20, 5))
	is := func(key string, asked bool) {
		t.Helper()
		if x, err := w.m.Peek([]byte(key)); x.Dirty != asked || err != api.OK {
			t.Errorf("Peek(%q) is %s, error %d", key, told(x), err)
		}
	}
	for i, key := range []string{"b", "a", "x", "c", "y"} {
		is(key, true)
		w.cleans(t, key)
		is(key, false)
		w.cleans(t, key)
		is(key, false)
		w.has(t, "c", "b", "a", "y", "x")
		w.same(t)
		dirty := 0
		for x := range w.m.All() {
			if x.Dirty {
				dirty++
			}
		}
		if dirty != 4-i {
			t.Errorf("behind %d Cleans %d are Dirty", i+1, dirty)
		}
	}
	w.gets(t, "a")
	is("a", false)
	w.puts(t, dirty("a", 1, 6))
	is("a", true)
	w.puts(t, dirty("b", 20, 7))
	is("b", true)
	is("c", false)
	w.same(t)
}

// P13.3: what was put clean is so; what is cleaned is told clean when it is put out.
func TestCleanTold(t *testing.T) {
	a, b := item("a", 500, 1), item("b", 500, 2)
	a.Dirty, b.Dirty = true, false
	w := of(t, 1, a)
	w.cleans(t, "a")
	out, err := w.m.Put(b)
	if len(out) != 1 || out[0].Dirty || string(out[0].Key) != "a" || err != api.OK {
		t.Errorf("Put tells %s, error %d", told(out...), err)
	}
	if x, _ := w.m.Get([]byte("b")); x.Dirty {
		t.Errorf("Get of b is %s", told(x))
	}
	if err := w.m.Clean([]byte("b")); err != api.OK {
		t.Errorf("Clean of b is error %d", err)
	}
	out, err = w.m.Put(a)
	if len(out) != 1 || out[0].Dirty || err != api.OK {
		t.Errorf("Put tells %s, error %d", told(out...), err)
	}
	if x, _ := w.m.Get([]byte("a")); !x.Dirty {
		t.Errorf("Get of a is %s", told(x))
	}
}

// P13.3: behind Clear no item is there, and all room: each class fills all pages, whatever was there.
func TestClear(t *testing.T) {
	for pages := 1; pages <= 3; pages++ {
		w := of(t, pages)
		w.clear(t)
		for class := range sizes {
			for other, n := range chunks {
				l := append(several(t, "k", pages*n, min(sizes[other], 500), 1), several(t, "k", class, min(sizes[class], 500), 2)...)
				for _, x := range l {
					w.put(t, x)
				}
				w.clear(t)
				w.has(t)
				w.same(t)
				for _, x := range l {
					w.misses(t, x.Key)
				}
				w.clear(t)
				for _, x := range several(t, "k", pages*chunks[class], min(sizes[class], 500), 3) {
					w.puts(t, x)
				}
				w.same(t)
				w.puts(t, one(t, "x", class, 4), "k0")
				w.tells(t)
			}
		}
	}
}

// P13.2, P13.3: an order begins anew behind Clear.
func TestPutBehindClear(t *testing.T) {
	w := of(t, 1, item("a", 400, 1), item("b", 400, 2))
	w.gets(t, "a")
	w.clear(t)
	w.misses(t, []byte("a"))
	w.puts(t, item("a", 400, 3))
	w.has(t, "a")
	w.puts(t, item("b", 400, 4))
	w.has(t, "b", "a")
	w.puts(t, item("c", 0, 5), "a", "b")
	w.clear(t)
	w.puts(t, item("c", 500, 6))
	w.has(t, "c")
	w.same(t)
}
