package slab_test

import (
	"testing"

	"icehouse/api"
)

// counted holds Used, Pages and Free against what the test asks.
func (w watched) counted(t *testing.T, class, used, pages, free int) {
	t.Helper()
	if n, m, k := w.a.Used(class), w.a.Pages(class), w.a.Free(); n != used || m != pages || k != free {
		t.Fatalf("of class %d Used is %d and Pages %d, and Free is %d; the test asks for %d, %d, %d", class, n, m, k, used, pages, free)
	}
	w.counts(t)
}

// P11.4: Used, Pages and Free at each moment of a fill and of the way back.
func TestCounts(t *testing.T) {
	for class, size := range sizes {
		const pages = 3
		each := chunks[class]
		w := of(t, pages)
		w.counted(t, class, 0, 0, pages)
		for n := 1; n <= pages*each; n++ {
			w.give(t, size)
			has := (n + each - 1) / each
			w.counted(t, class, n, has, pages-has)
		}
		w.gives(t, size, 0, api.ErrFull)
		w.counted(t, class, pages*each, pages, 0)
		for n := pages*each - 1; n >= 0; n-- {
			w.takes(t, 32*(n/each)+n%each, api.OK)
			has := (n + each - 1) / each
			w.counted(t, class, n, has, pages-has)
		}
		w.same(t)
	}
}

// P11.4: pages of all classes side by side are each told alone.
func TestCountsOfAll(t *testing.T) {
	w := of(t, 20)
	for class, size := range sizes {
		for range class + 1 {
			w.give(t, size)
			w.same(t)
		}
	}
	pages := []int{1, 1, 1, 1, 2, 2, 4, 8}
	for class := range sizes {
		w.counted(t, class, class+1, pages[class], 0)
	}
	for _, chunk := range w.p.given() {
		w.takes(t, chunk, api.OK)
		w.same(t)
	}
	w.counted(t, 0, 0, 0, 20)
}

// P11.4: a copy has the same pages and chunks, and neither feels what is done with the other.
func TestCopy(t *testing.T) {
	for _, w := range []watched{of(t, 1), of(t, 1, 32), of(t, 3, 200, 40, 200), of(t, 3, 32, 1000, 486, 32), filled(t, 2, 6), filled(t, 256, 2)} {
		c := w.copied()
		w.same(t)
		c.same(t)
		c.give(t, 32)
		w.same(t)
		w.give(t, 486)
		c.same(t)
		for _, chunk := range w.p.given() {
			w.takes(t, chunk, api.OK)
			if chunk%97 == 0 {
				c.same(t)
			}
		}
		c.same(t)
		for _, chunk := range c.p.given() {
			c.takes(t, chunk, api.OK)
		}
		w.give(t, 1024)
		w.same(t)
		c.same(t)
	}
}

// P11.4: each deed with the one, behind the copy, is nothing to the other, whichever of them it is done with.
func TestCopyEachDeed(t *testing.T) {
	deeds := []func(w watched){
		func(w watched) { w.gives(t, 300, 1, api.OK) },
		func(w watched) { w.gives(t, 1000, 64, api.OK) },
		func(w watched) { w.takes(t, 0, api.OK) },
		func(w watched) { w.takes(t, 33, api.OK) },
		func(w watched) { w.takes(t, 64, api.ErrNone) },
		func(w watched) {
			w.takes(t, 0, api.OK)
			w.takes(t, 2, api.OK)
			w.gives(t, 32, 0, api.OK)
		},
	}
	for _, deed := range deeds {
		for _, ofCopy := range []bool{false, true} {
			w := of(t, 3, 300, 300, 300, 486, 486)
			w.takes(t, 1, api.OK)
			c := w.copied()
			if ofCopy {
				deed(c)
			} else {
				deed(w)
			}
			w.same(t)
			c.same(t)
		}
	}
}

// P11.4: copies of copies, each of another moment.
func TestCopies(t *testing.T) {
	all := []watched{of(t, 4)}
	for i, bytes := range []int{32, 64, 32, 500, 216, 90, 216, 64} {
		c := all[i].copied()
		c.give(t, bytes)
		all = append(all, c)
	}
	for i, w := range all {
		w.same(t)
		for _, chunk := range w.p.given() {
			w.takes(t, chunk, api.OK)
		}
		for _, x := range all[i:] {
			x.same(t)
		}
	}
}
