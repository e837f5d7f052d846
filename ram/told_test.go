package ram_test

import (
	"bytes"
	"slices"
	"strings"
	"testing"

	"icehouse/api"
)

// P13.4: Len and Charge at every moment of one memory's life, told by the chapter's words alone.
func TestLenAndCharge(t *testing.T) {
	w := of(t, 2)
	step := func(what string, n, charge int) {
		t.Helper()
		if a, b := w.m.Len(), w.m.Charge(); a != n || b != charge {
			t.Errorf("%s: Len is %d, Charge %d; asked is %d, %d", what, a, b, n, charge)
		}
		w.same(t)
	}
	step("none", 0, 0)
	w.puts(t, item("a", 0, 1))
	step("the least charge", 1, 25)
	w.puts(t, item("bcd", 100, 2))
	step("another class", 2, 25+127)
	w.puts(t, item("a", 5, 3))
	step("a in its class", 2, 30+127)
	w.removes(t, "bcd")
	step("one removed", 1, 30)
	w.puts(t, item("a", 512, 4))
	step("a in another class", 1, 537)
	w.puts(t, item(strings.Repeat("k", 250), 512, 5))
	step("the greatest charge", 2, 537+786)
	w.refuses(t, item("a", 513, 6))
	w.misses(t, []byte("b"))
	w.gets(t, "a")
	w.cleans(t, "a")
	step("nothing done", 2, 537+786)
	w.puts(t, item("c", 400, 7), strings.Repeat("k", 250))
	step("one put out", 2, 537+425)
	w.puts(t, item("d", 399, 8))
	step("two of one class", 3, 537+425+424)
	w.puts(t, item("e", 7, 9), "c", "d")
	step("two put out", 2, 537+32)
	w.clear(t)
	step("all gone", 0, 0)
}

// P13.4: the greatest charges that there can be in each class: never more than 1024 bytes a page.
func TestGreatestCharge(t *testing.T) {
	for class, n := range chunks {
		for pages := 1; pages <= 3; pages++ {
			w := of(t, pages)
			each := min(sizes[class], 786)
			for i := range 2*pages*n + 1 {
				key := []byte(strings.Repeat("k", max(3, each-24-512)))
				key[0], key[1] = byte(i), byte(i>>8)
				w.put(t, charged(t, string(key), each, uint64(i+1)))
				w.tells(t)
				if asked := min(i+1, pages*n) * each; w.m.Charge() != asked {
					t.Fatalf("class %d, %d pages, %d items: Charge is %d; asked is %d", class, pages, i+1, w.m.Charge(), asked)
				}
			}
		}
	}
}

// P13.4: All tells the classes by rising numbers, each from the newest to the oldest, however they came.
func TestAllOrder(t *testing.T) {
	w := of(t, 16)
	asked := make([][]string, len(sizes))
	for i := range 24 {
		class := i * 5 % len(sizes)
		key := string(rune('a' + i))
		if class > 5 && len(asked[class]) > 2 {
			continue
		}
		w.puts(t, one(t, key, class, uint64(i+1)))
		asked[class] = append([]string{key}, asked[class]...)
		w.has(t, slices.Concat(asked...)...)
	}
	for class, keys := range asked {
		oldest := keys[len(keys)-1]
		w.gets(t, oldest)
		asked[class] = append([]string{oldest}, keys[:len(keys)-1]...)
		w.has(t, slices.Concat(asked...)...)
	}
	w.same(t)
}

// P13.4: items of charges at each class' size and the number beside it stand in two classes.
func TestAllEdges(t *testing.T) {
	for _, size := range sizes[:7] {
		key := max(1, size+1-24-512)
		a, b := charged(t, strings.Repeat("a", key), size, 1), charged(t, strings.Repeat("b", key), size+1, 2)
		c, d := charged(t, strings.Repeat("c", key), size, 3), charged(t, strings.Repeat("d", key), size+1, 4)
		w := of(t, 4, a, b, c, d)
		w.has(t, string(c.Key), string(a.Key), string(d.Key), string(b.Key))
		w.gets(t, string(a.Key))
		w.has(t, string(a.Key), string(c.Key), string(d.Key), string(b.Key))
		w.same(t)
	}
}

// deed is what is done ahead of, or while, items are gone through; key is that of the one that is told.
type deed func(t *testing.T, w watched, key string)

// deeds change the items of threeClasses.
func deeds() []deed {
	return []deed{
		func(t *testing.T, w watched, key string) { w.get(t, []byte(key)) },
		func(t *testing.T, w watched, key string) { w.remove(t, []byte(key)) },
		func(t *testing.T, w watched, key string) { w.clean(t, []byte(key)) },
		func(t *testing.T, w watched, key string) { w.clear(t) },
		func(t *testing.T, w watched, key string) { w.put(t, item(key, 3, 90)) },
		func(t *testing.T, w watched, key string) { w.put(t, item(key, 30, 91)) },
		func(t *testing.T, w watched, key string) { w.put(t, item(key, 410, 92)) },
		func(t *testing.T, w watched, key string) { w.put(t, item("n"+key, 2, 93)) },
		func(t *testing.T, w watched, key string) { w.put(t, item("n"+key, 500, 94)) }, // puts out
		func(t *testing.T, w watched, key string) {
			for _, all := range []string{"a", "b", "c", "x", "y", "s", "t"} {
				w.get(t, []byte(all))
				w.clean(t, []byte(all))
			}
		},
		func(t *testing.T, w watched, key string) {
			for _, all := range []string{"a", "b", "c", "x", "y", "s", "t"} {
				w.remove(t, []byte(all))
			}
		},
		func(t *testing.T, w watched, key string) {
			for i := range 8 {
				w.put(t, item("m"+key, 60*i, uint64(i+95)))
			}
		},
		func(t *testing.T, w watched, key string) {
			w.clear(t)
			for i, all := range []string{"t", "y", "c", "x", "b"} {
				w.put(t, item(all, 100, uint64(i+99)))
			}
		},
	}
}

// threeClasses is a full memory with a, b, c in a lesser class, x, y in one between, s, t in a greater one.
func threeClasses(t *testing.T) (watched, []api.Item) {
	t.Helper()
	w := of(t, 3, item("s", 400, 1), item("a", 1, 2), item("x", 20, 4), item("b", 1, 5), item("t", 400, 7), item("y", 20, 8), item("c", 1, 10))
	w.has(t, "c", "b", "a", "y", "x", "t", "s")
	var asked []api.Item
	for _, x := range w.p.all() {
		asked = append(asked, ownOf(x))
	}
	return w, asked
}

// holds goes through what All answered, holds it against what is asked, and spoils it.
func holds(t *testing.T, all func(func(api.Item) bool), asked []api.Item) {
	t.Helper()
	l := slices.Collect(all)
	if !slices.EqualFunc(l, asked, same) {
		t.Fatalf("All tells %s; asked is %s", told(l...), told(asked...))
	}
	spoil(t, l)
}

// P13.4: All is of the moment at which it was called, whatever is done since, also between two times that it is gone through.
func TestAllStays(t *testing.T) {
	for _, deed := range deeds() {
		for _, key := range []string{"a", "b", "c", "x", "y", "s", "t"} {
			w, asked := threeClasses(t)
			all := w.m.All()
			for range 3 {
				deed(t, w, key)
				holds(t, all, asked)
			}
			w.same(t)
			holds(t, w.m.All(), w.p.all())
		}
	}
}

// P13.4: All of no items tells none, whatever comes since.
func TestAllOfNone(t *testing.T) {
	for _, deed := range deeds() {
		w := of(t, 3)
		all := w.m.All()
		for range 2 {
			holds(t, all, nil)
			deed(t, w, "a")
		}
		holds(t, all, nil)
	}
}

// P13.4: the items may be changed by who goes through them; what is told does not hang on it.
func TestAllMeanwhile(t *testing.T) {
	for i, deed := range deeds() {
		w, asked := threeClasses(t)
		var l []api.Item
		for x := range w.m.All() {
			l = append(l, x)
			deed(t, w, string(x.Key))
			w.tells(t)
		}
		if !slices.EqualFunc(l, asked, same) {
			t.Errorf("deed %d: All tells %s; asked is %s", i, told(l...), told(asked...))
		}
		w.same(t)
	}
}

// R6: it may be left early at each place, and gone through again, within itself too; behind a no nothing more is told.
func TestAllLeft(t *testing.T) {
	w, asked := threeClasses(t)
	all := w.m.All()
	for n := range len(asked) + 1 {
		var l []api.Item
		for x := range all {
			if len(l) == n {
				break
			}
			l = append(l, x)
			holds(t, all, asked)
		}
		if !slices.EqualFunc(l, asked[:n], same) {
			t.Errorf("left behind %d, All tells %s", n, told(l...))
		}
		holds(t, all, asked)
	}
	for last := range asked {
		n := 0
		all(func(x api.Item) bool {
			n++
			return n <= last
		})
		if n != last+1 {
			t.Errorf("stopped behind %d, All tells %d", last+1, n)
		}
	}
	w.same(t)
}

// P13.4: what is told at one moment, while what was there at another one is told.
func TestAllSideBySide(t *testing.T) {
	w, first := threeClasses(t)
	a := w.m.All()
	w.gets(t, "a")
	w.cleans(t, "c")
	w.removes(t, "x")
	w.puts(t, item("y", 21, 30))
	second := w.p.all()
	b := w.m.All()
	n := 0
	for x := range a {
		m := 0
		for y := range b {
			if !same(x, first[n]) || !same(y, second[m]) {
				t.Fatalf("told are %s; asked is %s", told(x, y), told(first[n], second[m]))
			}
			m++
		}
		if m != len(second) {
			t.Fatalf("%d of %d are told", m, len(second))
		}
		n++
	}
	if n != len(first) {
		t.Fatalf("%d of %d are told", n, len(first))
	}
}

// R3: what is handed in may be changed behind the call, what is told may be changed as well: nothing of the memory changes, and nothing that All tells. (put, get and all others of watched spoil both behind each call; here it is told by the chapter's words alone.)
func TestOwnMemory(t *testing.T) {
	w := of(t, 1)
	a, b := item("a", 400, 1), item("b", 401, 2)
	key, value := []byte("a"), bytes.Clone(a.Value)
	if _, err := w.m.Put(api.Item{Key: key, Value: value, Flags: a.Flags, Expiry: a.Expiry, Seq: 1, Dirty: a.Dirty}); err != api.OK {
		t.Fatalf("Put of a is error %d", err)
	}
	key[0] = 'z'
	clear(value)
	all := w.m.All()
	for range 2 {
		for _, call := range []func([]byte) (api.Item, api.Errno){w.m.Get, w.m.Peek} {
			key := []byte("a")
			x, err := call(key)
			if !same(x, a) || err != api.OK {
				t.Fatalf("a is %s, error %d", told(x), err)
			}
			x.Key[0] = 'y'
			clear(x.Value)
			key[0] = 'x'
		}
		for x := range all {
			if !same(x, a) {
				t.Fatalf("All tells %s", told(x))
			}
			x.Key[0] = 'w'
			clear(x.Value)
		}
	}
	w.m.Put(b)
	out, err := w.m.Put(item("c", 402, 3))
	if len(out) != 1 || !same(out[0], a) || err != api.OK {
		t.Fatalf("Put of c tells %s, error %d", told(out...), err)
	}
	out[0].Key[0] = 'v'
	clear(out[0].Value)
	for x := range all {
		if !same(x, a) {
			t.Fatalf("All tells %s", told(x))
		}
	}
	if _, err := w.m.Get([]byte("v")); err != api.ErrNone {
		t.Errorf("Get of v is error %d", err)
	}
}

// R3: what was put out is the caller's own, in the answer of one Put and of another.
func TestPutOutOwn(t *testing.T) {
	w, asked := threeClasses(t)
	all := w.m.All()
	out, err := w.m.Put(item("n", 500, 50)) // c, b, a lie in the least class
	if !slices.Equal(keysOf(out), []string{"a", "b", "c"}) || err != api.OK {
		t.Fatalf("Put tells %s, error %d", told(out...), err)
	}
	again, err := w.m.Put(ownOf(out[1]))
	if !slices.Equal(keysOf(again), []string{"x", "y"}) || err != api.OK {
		t.Fatalf("Put tells %s, error %d", told(again...), err)
	}
	spoil(t, append(out, again...))
	holds(t, all, asked)
	if x, err := w.m.Peek([]byte("b")); !same(x, asked[1]) || err != api.OK {
		t.Errorf("b is %s, error %d", told(x), err)
	}
}
