package ram_test

import (
	"bytes"
	"math"
	"slices"
	"strconv"
	"testing"

	"icehouse/api"
	"icehouse/ram"
)

// The chapter's examples: P13.2 to P13.4.
func TestExamples(t *testing.T) {
	m, err := ram.New(1)
	if err != api.OK {
		t.Fatalf("New(1): error %d", err)
	}
	a, b, c, d := item("a", 400, 1), item("b", 400, 2), item("c", 400, 3), item("d", 0, 4)
	puts := func(x api.Item, asked ...api.Item) {
		t.Helper()
		if out, err := m.Put(x); !slices.EqualFunc(out, asked, same) || err != api.OK {
			t.Errorf("Put of %s tells %s, error %d", told(x), told(out...), err)
		}
	}
	puts(a)
	puts(b)
	puts(c, a)
	if x, err := m.Get([]byte("b")); !same(x, b) || err != api.OK {
		t.Errorf("Get of b is %s, error %d", told(x), err)
	}
	puts(a, c)
	if all := slices.Collect(m.All()); !slices.EqualFunc(all, []api.Item{a, b}, same) {
		t.Errorf("All tells %s", told(all...))
	}
	if n, charge := m.Len(), m.Charge(); n != 2 || charge != 850 {
		t.Errorf("Len is %d, Charge %d", n, charge)
	}
	puts(d, b, a)
	if all := slices.Collect(m.All()); !slices.EqualFunc(all, []api.Item{d}, same) {
		t.Errorf("All tells %s", told(all...))
	}
}

// P13.1: how many pages may be, and how many may not; no item is there.
func TestNew(t *testing.T) {
	for _, pages := range []int{1, 2, 3, 127, 128, 255, 256} {
		w := of(t, pages)
		w.same(t)
		w.has(t)
		w.clear(t)
		w.same(t)
	}
	for _, pages := range wrongPages() {
		if m, err := ram.New(pages); m != nil || err != api.ErrArg {
			t.Errorf("New(%d) is not nil, or error %d", pages, err)
		}
	}
}

// P13.1: there are as many pages as were asked for: so many items have room that need a page each, and no more.
func TestNewPages(t *testing.T) {
	for _, pages := range []int{1, 2, 3, 7, 31, 32, 33, 64, 255, 256} {
		w := of(t, pages)
		l := several(t, "k", pages+2, 500, 1)
		for _, x := range l[:pages] {
			w.puts(t, x)
		}
		w.same(t)
		w.puts(t, l[pages], "k0")
		w.puts(t, l[pages+1], "k1")
		w.same(t)
	}
}

// P13.1, P13.2: of the least items 32 have room in each page.
func TestMostItems(t *testing.T) {
	for _, pages := range []int{1, 2, 3, 63, 64, 65, 255, 256} {
		m, err := ram.New(pages)
		if err != api.OK {
			t.Fatalf("New(%d): error %d", pages, err)
		}
		n := 32 * pages
		for i := range n {
			if out, err := m.Put(api.Item{Key: []byte(strconv.Itoa(i)), Seq: 1}); len(out) != 0 || err != api.OK {
				t.Fatalf("Put %d of %d pages tells %s, error %d", i, pages, told(out...), err)
			}
		}
		if m.Len() != n {
			t.Errorf("Len is %d; asked is %d", m.Len(), n)
		}
		at := n
		for x := range m.All() {
			at--
			if string(x.Key) != strconv.Itoa(at) {
				t.Fatalf("All tells %s; asked is %d", told(x), at)
			}
		}
		for i := range n {
			if x, err := m.Peek([]byte(strconv.Itoa(i))); string(x.Key) != strconv.Itoa(i) || err != api.OK {
				t.Fatalf("Peek(%d) is %s, error %d", i, told(x), err)
			}
		}
		if out, err := m.Put(api.Item{Key: []byte("x"), Seq: 1}); !slices.Equal(keysOf(out), []string{"0"}) || err != api.OK {
			t.Errorf("one more of %d pages puts out %s, error %d", pages, told(out...), err)
		}
		if m.Len() != n || m.Charge() > 1024*pages {
			t.Errorf("Len is %d, Charge %d", m.Len(), m.Charge())
		}
	}
}

// R4: of a nil one an error is ErrNil, ahead of all else, and all else is nothing.
func TestNil(t *testing.T) {
	var m *ram.Ram
	for _, x := range append(wrongItems(), item("a", 1, 1), item("b", 512, math.MaxUint64)) {
		if out, err := m.Put(x); len(out) != 0 || err != api.ErrNil {
			t.Errorf("Put of %s tells %s, error %d", told(x), told(out...), err)
		}
	}
	for _, key := range [][]byte{nil, {}, []byte("a"), bytes.Repeat([]byte("k"), 250), bytes.Repeat([]byte("k"), 251)} {
		if x, err := m.Get(key); !same(x, api.Item{}) || err != api.ErrNil {
			t.Errorf("Get(%q) is %s, error %d", key, told(x), err)
		}
		if x, err := m.Peek(key); !same(x, api.Item{}) || err != api.ErrNil {
			t.Errorf("Peek(%q) is %s, error %d", key, told(x), err)
		}
		if a, b := m.Remove(key), m.Clean(key); a != api.ErrNil || b != api.ErrNil {
			t.Errorf("Remove(%q) is error %d, Clean %d", key, a, b)
		}
	}
	if err := m.Clear(); err != api.ErrNil {
		t.Errorf("Clear is error %d", err)
	}
	if a, b := m.Len(), m.Charge(); a != 0 || b != 0 {
		t.Errorf("Len is %d, Charge %d", a, b)
	}
	all := m.All()
	for range 2 {
		for x := range all {
			t.Errorf("All tells %s", told(x))
		}
	}
}

// P13.1: what is done with one memory is nothing to another.
func TestTwo(t *testing.T) {
	v, w := of(t, 1), of(t, 1)
	v.puts(t, item("a", 400, 1))
	w.same(t)
	w.puts(t, item("a", 401, 2))
	w.puts(t, item("b", 400, 3))
	v.same(t)
	v.puts(t, item("c", 400, 4))
	v.puts(t, item("b", 30, 5), "a", "c")
	w.same(t)
	w.gets(t, "a")
	w.cleans(t, "a")
	v.misses(t, []byte("a"))
	v.clear(t)
	w.same(t)
	w.removes(t, "a")
	v.same(t)
	w.has(t, "b")
}

// R5: what is asked, but by Get, changes nothing: asking twice answers the same.
func TestAskedTwice(t *testing.T) {
	w := of(t, 4, item("a", 400, 1), item("b", 400, 2), item("c", 7, 3), item("d", 100, 4), item("e", 8, 5))
	for range 3 {
		w.same(t)
		for _, key := range []string{"a", "d", "c"} {
			w.peeks(t, key)
		}
		w.m.All()
		w.m.Len()
		w.m.Charge()
		w.has(t, "c", "e", "d", "b", "a")
	}
}
