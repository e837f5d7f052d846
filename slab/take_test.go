package slab_test

import (
	"testing"

	"icehouse/api"
)

// refused asks Take and Where for the chunk, which both are to refuse, and nothing is to have changed.
func (w watched) refused(t *testing.T, chunk int, asked api.Errno) {
	t.Helper()
	if class, err := w.a.Where(chunk); class != 0 || err != asked {
		t.Fatalf("Where(%d) is %d, error %d; the test asks for error %d", chunk, class, err, asked)
	}
	w.takes(t, chunk, asked)
	w.counts(t)
}

// given asks Where for the chunk, which is to be given and of that class.
func (w watched) given(t *testing.T, chunk, asked int) {
	t.Helper()
	if class, err := w.a.Where(chunk); class != asked || err != api.OK {
		t.Fatalf("Where(%d) is %d, error %d; the test asks for %d", chunk, class, err, asked)
	}
}

// P11.3: each chunk of a full arena, of its first and of its last page too, is told and taken once.
func TestTake(t *testing.T) {
	for class := range sizes {
		for _, pages := range []int{1, 2, 9} {
			w := filled(t, pages, class)
			for page := range pages {
				for place := range chunks[class] {
					chunk := 32*page + place
					w.given(t, chunk, class)
					w.takes(t, chunk, api.OK)
					w.counts(t)
					w.refused(t, chunk, api.ErrNone)
				}
			}
			w.same(t)
			if n := w.a.Free(); n != pages {
				t.Errorf("behind it all %d of %d pages are free", n, pages)
			}
		}
	}
}

// P11.3: a chunk alone is taken: its neighbours stay, of its page and of others.
func TestTakeAlone(t *testing.T) {
	for class := range sizes {
		for page := range 3 {
			for place := range chunks[class] {
				w := filled(t, 3, class)
				w.takes(t, 32*page+place, api.OK)
				w.same(t)
			}
		}
	}
}

// P11.3: places from the class' chunks to 31 are never given: ErrNone, not ErrArg, and of a free page all places.
func TestTakeBehindChunks(t *testing.T) {
	for class := range sizes {
		for _, pages := range []int{1, 3, 256} {
			w := filled(t, pages, class)
			for _, page := range []int{0, pages / 2, pages - 1} {
				for place := chunks[class]; place < 32; place++ {
					w.refused(t, 32*page+place, api.ErrNone)
				}
			}
			w.same(t)
		}
	}
	w := of(t, 3)
	for chunk := range 3 * 32 {
		w.refused(t, chunk, api.ErrNone)
	}
	w.same(t)
}

// P11.3: no page has such a number: below 0, behind the last page, and the least and greatest numbers.
func TestTakeNoPage(t *testing.T) {
	for _, pages := range []int{1, 2, 3, 255, 256} {
		for _, w := range []watched{of(t, pages), filled(t, pages, 0), filled(t, pages, 7)} {
			for _, chunk := range farOff {
				w.refused(t, chunk, api.ErrArg)
			}
			for chunk := 32 * pages; chunk < 32*pages+70; chunk++ {
				w.refused(t, chunk, api.ErrArg)
			}
			for chunk := -70; chunk < 0; chunk++ {
				w.refused(t, chunk, api.ErrArg)
			}
			w.same(t)
		}
	}
}

// P11.3: of a page whose chunks were all taken, and of one that has another class since, only what is given is told.
func TestTakeOfOtherClass(t *testing.T) {
	for class := range sizes {
		for other, size := range sizes {
			w := filled(t, 2, class)
			for place := range chunks[class] {
				w.takes(t, place, api.OK)
			}
			for place := range 32 {
				w.refused(t, place, api.ErrNone)
			}
			w.gives(t, size, 0, api.OK)
			w.given(t, 0, other)
			w.given(t, 32, class)
			for place := 1; place < 32; place++ {
				if other != class {
					w.refused(t, place, api.ErrNone)
				}
			}
			w.same(t)
		}
	}
}

// P11.3: Where changes nothing, however often it is asked.
func TestWhereStays(t *testing.T) {
	w := of(t, 3, 32, 33, 32, 1024)
	for range 3 {
		w.given(t, 0, 0)
		w.given(t, 1, 0)
		w.given(t, 32, 1)
		w.given(t, 64, 7)
		w.refused(t, 33, api.ErrNone)
		w.same(t)
	}
}
