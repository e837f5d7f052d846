package ram_test

import (
	"bytes"
	"math"
	"strings"
	"testing"

	"icehouse/api"
)

// P13.2: what may not be is refused, and changes nothing: in an empty memory, in one with room, and in a full one; whether its key is there, or not.
func TestPutWrong(t *testing.T) {
	long := strings.Repeat("a", 250)
	for _, w := range []watched{
		of(t, 1),
		of(t, 2, item("b", 10, 1), item("a", 400, 2)),
		of(t, 1, item("a", 400, 1), item("b", 400, 2)),
		of(t, 1, item(long, 0, 1), item("b", 240, 2), item("c", 250, 3)),
	} {
		w.same(t)
		for _, x := range wrongItems() {
			w.refuses(t, x)
			w.tells(t)
		}
		for _, key := range []string{"a", "b", "c", long} {
			w.refuses(t, api.Item{Key: []byte(key), Value: []byte("w"), Dirty: true})
			w.refuses(t, api.Item{Key: []byte(key), Value: bytes.Repeat([]byte("w"), 513), Seq: 9})
			w.refuses(t, api.Item{Key: []byte(key), Value: bytes.Repeat([]byte("w"), 513)})
		}
		w.same(t)
	}
}

// P13.2: the edges of what may be: all of it is there, and is told.
func TestPutEdges(t *testing.T) {
	n := uint64(0)
	for _, key := range []int{1, 2, 249, 250} {
		for _, value := range []int{0, 1, 2, 511, 512} {
			for _, seq := range []uint64{1, 2, 1 << 32, 1<<63 - 1, 1 << 63, math.MaxUint64 - 1, math.MaxUint64} {
				n++
				x := item(strings.Repeat("k", key), value, n)
				x.Seq = seq
				for _, y := range []api.Item{
					x,
					{Key: x.Key, Value: x.Value, Seq: seq},
					{Key: x.Key, Value: x.Value, Seq: seq, Dirty: true},
					{Key: x.Key, Value: x.Value, Seq: seq, Flags: math.MaxUint32},
					{Key: x.Key, Value: x.Value, Seq: seq, Expiry: math.MaxUint32},
					{Key: x.Key, Value: x.Value, Seq: seq, Flags: 1, Expiry: 1, Dirty: true},
				} {
					w := of(t, 1, y)
					w.same(t)
					w.gets(t, string(x.Key))
					w.same(t)
				}
			}
		}
	}
}

// P13.2: a value that is nil is the same as an empty one.
func TestPutNilValue(t *testing.T) {
	w := of(t, 1)
	w.puts(t, api.Item{Key: []byte("a"), Seq: 1})
	w.puts(t, api.Item{Key: []byte("b"), Value: []byte{}, Seq: 1})
	w.same(t)
	w.gets(t, "a")
	w.gets(t, "b")
	w.has(t, "b", "a")
}

// P13.2, P13.3: keys are whatever bytes they are; those that are alike but for one byte, or a length, are others.
func TestPutKeys(t *testing.T) {
	w := of(t, 64)
	var keys []string
	for b := range 256 {
		keys = append(keys, string([]byte{byte(b)}))
	}
	long := strings.Repeat("x", 249)
	keys = append(keys, "aa", "ab", "ba", "aA", "a\x00", "\x00a", "a\x00a", "\x00\x00", "a ", " a", "é", "e\u0301", "\xEF\xBF\xBD", long, long+"x", long+"y", "y"+long, long[1:], long[2:]+"y")
	for i, key := range keys {
		w.misses(t, []byte(key))
		w.puts(t, item(key, i%7, uint64(i+1)))
	}
	w.same(t)
	if n := w.m.Len(); n != len(keys) {
		t.Errorf("of %d keys Len is %d", len(keys), n)
	}
	for i, key := range keys {
		w.gets(t, key)
		if i%2 == 0 {
			w.removes(t, key)
			w.misses(t, []byte(key))
		}
	}
	w.same(t)
}

// P13.2: values are whatever bytes they are.
func TestPutValues(t *testing.T) {
	w := of(t, 8)
	var every []byte
	for b := range 512 {
		every = append(every, byte(b))
	}
	for i, value := range [][]byte{every, every[:256], every[255:], make([]byte, 512), make([]byte, 1), bytes.Repeat([]byte{255}, 512), []byte("\r\n"), []byte("é")} {
		w.puts(t, api.Item{Key: []byte{byte(i)}, Value: value, Seq: 1})
		w.same(t)
	}
}

// P13.2: an item lies in the class of its charge: of each charge there is, with a short key and with a long one, as many have room in a page as the class says; the next one puts out the oldest.
func TestEachCharge(t *testing.T) {
	for charge := 25; charge <= 786; charge++ {
		for _, key := range []int{max(1, charge-24-512), min(250, charge-24)} {
			w := of(t, 1)
			x := item(strings.Repeat("k", key), charge-24-key, 1)
			for i := range chunks[classOf(x)] {
				x.Key[0] = byte(i)
				w.puts(t, x)
			}
			x.Key[0] = 'n'
			w.puts(t, x, string(append([]byte{0}, x.Key[1:]...)))
			w.tells(t)
		}
	}
}

// P13.2: charges at each class' size, and the numbers beside it, told by the chapter's words alone.
func TestClassEdges(t *testing.T) {
	for _, c := range []struct{ charge, fit int }{
		{25, 32}, {31, 32}, {32, 32},
		{33, 16}, {63, 16}, {64, 16},
		{65, 10}, {95, 10}, {96, 10},
		{97, 7}, {143, 7}, {144, 7},
		{145, 4}, {215, 4}, {216, 4},
		{217, 3}, {323, 3}, {324, 3},
		{325, 2}, {485, 2}, {486, 2},
		{487, 1}, {785, 1}, {786, 1},
	} {
		key := max(1, c.charge-24-512)
		for pages := 1; pages <= 3; pages++ {
			w := of(t, pages)
			for i := range pages*c.fit + 2 {
				x := item(strings.Repeat("k", key), c.charge-24-key, uint64(i+1))
				x.Key[0] = byte(i)
				out, err := w.put(t, x)
				switch {
				case err != api.OK:
					t.Fatalf("Put of %s is error %d", told(x), err)
				case i < pages*c.fit && len(out) != 0:
					t.Fatalf("charge %d: item %d of %d pages puts out %s", c.charge, i, pages, told(out...))
				case i >= pages*c.fit && (len(out) != 1 || out[0].Key[0] != byte(i-pages*c.fit)):
					t.Fatalf("charge %d: item %d of %d pages puts out %s", c.charge, i, pages, told(out...))
				}
			}
			w.same(t)
		}
	}
}

// P13.2: the item of the same key goes, is not told, and the new one is the newest of its class.
func TestSameKey(t *testing.T) {
	w := of(t, 4, item("a", 10, 1), item("b", 10, 2), item("c", 10, 3), item("d", 400, 4), item("e", 400, 5))
	w.has(t, "c", "b", "a", "e", "d")
	w.puts(t, item("a", 9, 6)) // of the same class
	w.has(t, "a", "c", "b", "e", "d")
	w.puts(t, item("a", 9, 6)) // the very same
	w.has(t, "a", "c", "b", "e", "d")
	w.puts(t, item("b", 50, 7)) // of another class, which has no page yet
	w.has(t, "a", "c", "b", "e", "d")
	w.puts(t, item("d", 11, 8)) // of a lesser one
	w.has(t, "d", "a", "c", "b", "e")
	w.puts(t, item("c", 410, 2)) // of a greater one, with a lesser sequence
	w.has(t, "d", "a", "b", "c", "e")
	w.puts(t, item("e", 0, 1))
	w.has(t, "e", "d", "a", "b", "c")
	w.same(t)
	if n := w.m.Len(); n != 5 {
		t.Errorf("Len is %d", n)
	}
}

// P13.2: whatever the new item says is told behind it: nothing of the one that went.
func TestSameKeyFields(t *testing.T) {
	l := []api.Item{
		{Key: []byte("a"), Value: []byte("long value"), Flags: 5, Expiry: 6, Seq: 7, Dirty: true},
		{Key: []byte("a"), Value: []byte("short"), Seq: 8},
		{Key: []byte("a"), Seq: 9, Dirty: true},
		{Key: []byte("a"), Value: []byte("short"), Flags: 1, Seq: 2},
		{Key: []byte("a"), Value: []byte("other"), Expiry: 1, Seq: 2, Dirty: true},
	}
	for i := range l {
		for j := range l {
			w := of(t, 1, l[i], l[j])
			w.same(t)
			w.gets(t, "a")
			w.cleans(t, "a")
			w.puts(t, l[i])
			w.same(t)
		}
	}
}

// P13.2: the item of the same key has had the last chunk that there was: nothing is put out for the new one of that class.
func TestSameKeyLastChunk(t *testing.T) {
	for class, size := range sizes {
		for at := range chunks[class] {
			l := several(t, "k", chunks[class], min(size, 500), 1)
			w := of(t, 1, l...)
			x := l[at]
			x.Seq = 100
			w.puts(t, x)
			w.puts(t, x)
			w.same(t)
			if class > 0 {
				w.puts(t, charged(t, string(x.Key), sizes[class-1]+1, 101)) // the least charge of the class
				w.same(t)
			}
		}
	}
}

// P13.2: the item of the same key goes ahead of all else: its page is free for another class, if it lay there alone; else the others of that class go.
func TestSameKeyOtherClass(t *testing.T) {
	w := of(t, 1, item("a", 400, 1))
	w.puts(t, item("a", 1, 2))
	w.has(t, "a")
	w.puts(t, item("a", 500, 3))
	w.has(t, "a")
	w.puts(t, item("a", 400, 4))
	w.puts(t, item("b", 400, 5))
	w.puts(t, item("a", 1, 6), "b")
	w.has(t, "a")
	w.puts(t, item("b", 2, 7))
	w.puts(t, item("c", 3, 8))
	w.puts(t, item("b", 300, 9), "a", "c")
	w.has(t, "b")
	w.same(t)

	w = of(t, 2, item("a", 500, 1), item("b", 400, 2), item("c", 400, 3))
	w.puts(t, item("a", 400, 4)) // its own page is free, and gets the class
	w.has(t, "a", "c", "b")
	w.puts(t, item("d", 400, 5))
	w.puts(t, item("b", 500, 6), "c") // b was the oldest; c is of the same page
	w.has(t, "d", "a", "b")
	w.same(t)
}
