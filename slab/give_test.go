package slab_test

import (
	"math"
	"testing"

	"icehouse/api"
)

// P11.2: pages of each class are filled one behind the other, place by place, till there is no room.
func TestGiveFills(t *testing.T) {
	for class, size := range sizes {
		for _, pages := range []int{1, 2, 3, 7, 255, 256} {
			w := of(t, pages)
			for page := range pages {
				for place := range chunks[class] {
					w.gives(t, size, 32*page+place, api.OK)
				}
			}
			w.same(t)
			w.gives(t, size, 0, api.ErrFull)
			w.gives(t, 0, 0, api.ErrFull)
			w.gives(t, 1024, 0, api.ErrFull)
			w.same(t)
		}
	}
}

// P11.2: chunks are given by classes: bytes of one class share its pages, bytes of two classes do not.
func TestGiveByClass(t *testing.T) {
	for class, size := range sizes {
		least := 0
		if class > 0 {
			least = sizes[class-1] + 1
		}
		w := of(t, 3)
		w.gives(t, least, 0, api.OK)
		if chunks[class] > 1 {
			w.gives(t, size, 1, api.OK)
		}
		if class < 7 {
			w.gives(t, size+1, 32, api.OK)
		}
		if class > 0 {
			w.gives(t, least-1, 32*(3-w.a.Free()), api.OK)
		}
		w.same(t)
	}
}

// P11.2: an arena of one page has one class at a time.
func TestGiveOnePage(t *testing.T) {
	for class, size := range sizes {
		for other, otherSize := range sizes {
			w := of(t, 1, size)
			if class != other {
				w.gives(t, otherSize, 0, api.ErrFull)
				w.same(t)
			}
			w.takes(t, 0, api.OK)
			w.same(t)
			w.gives(t, otherSize, 0, api.OK)
			w.same(t)
		}
	}
}

// P11.2: of two pages of the class the least that has such a chunk: not a full one, not a later one.
func TestGiveLeastPage(t *testing.T) {
	w := filled(t, 3, 5)
	w.takes(t, 33, api.OK)
	w.gives(t, 300, 33, api.OK) // page 0 is full, page 1 is not
	w.takes(t, 66, api.OK)
	w.gives(t, 300, 66, api.OK) // only the last one is not full
	w.takes(t, 66, api.OK)
	w.takes(t, 34, api.OK)
	w.takes(t, 1, api.OK)
	w.same(t)
	w.gives(t, 300, 1, api.OK)
	w.gives(t, 300, 34, api.OK)
	w.gives(t, 300, 66, api.OK)
	w.gives(t, 300, 0, api.ErrFull)
	w.same(t)
}

// P11.2: the least place of the page, whatever was taken between the others, and in whichever order.
func TestGiveLeastPlace(t *testing.T) {
	for class, size := range sizes {
		for first := range chunks[class] {
			for second := range chunks[class] {
				w := filled(t, 1, class)
				w.takes(t, first, api.OK)
				if second != first {
					w.takes(t, second, api.OK)
					w.gives(t, size, min(first, second), api.OK)
				}
				w.same(t)
				w.gives(t, size, max(first, second), api.OK)
				w.gives(t, size, 0, api.ErrFull)
				w.same(t)
			}
		}
	}
}

// P11.2: a page that has the class and room goes ahead of a free one, even of one of a lesser number.
func TestGiveAheadOfFree(t *testing.T) {
	w := of(t, 4, 1000, 200, 1000)
	w.takes(t, 0, api.OK)
	w.same(t)
	w.gives(t, 200, 33, api.OK)
	w.gives(t, 200, 34, api.OK)
	w.gives(t, 200, 35, api.OK)
	w.gives(t, 200, 0, api.OK) // page 1 is full; page 0 is free, and page 3
	w.gives(t, 30, 96, api.OK)
	w.gives(t, 100, 0, api.ErrFull)
	w.same(t)
}

// P11.2: of the free pages that of the least number, whichever became free.
func TestGiveFreePage(t *testing.T) {
	const pages = 5
	for set := range 1 << pages {
		w := filled(t, pages, 7)
		least := -1
		for page := pages - 1; page >= 0; page-- {
			if set>>page&1 == 1 {
				w.takes(t, 32*page, api.OK)
				least = page
			}
		}
		w.same(t)
		if least < 0 {
			w.gives(t, 400, 0, api.ErrFull)
			continue
		}
		w.gives(t, 400, 32*least, api.OK)
		w.gives(t, 400, 32*least+1, api.OK)
		w.same(t)
	}
}

// P11.2: a page that became free takes another class, from its first chunk on, and has as many as that class has.
func TestGiveOtherClass(t *testing.T) {
	for class := range sizes {
		for other, size := range sizes {
			w := filled(t, 2, class)
			for place := range chunks[class] {
				w.takes(t, 32+place, api.OK)
			}
			w.same(t)
			for place := range chunks[other] {
				w.gives(t, size, 32+place, api.OK)
			}
			w.same(t)
			w.gives(t, size, 0, api.ErrFull)
			w.same(t)
		}
	}
}

// P11.2: a page keeps its class as long as one chunk of it is given, whichever.
func TestGiveKeepsClass(t *testing.T) {
	for class, size := range sizes {
		for stays := range chunks[class] {
			w := filled(t, 1, class)
			for place := range chunks[class] {
				if place != stays {
					w.takes(t, place, api.OK)
				}
			}
			w.same(t)
			w.gives(t, sizes[(class+1)%8], 0, api.ErrFull)
			if stays > 0 {
				w.gives(t, size, 0, api.OK)
			}
			w.same(t)
		}
	}
}

// P11.2: ErrFull with no page free, though the pages of all other classes have room.
func TestGiveFullBesideRoom(t *testing.T) {
	for class, size := range sizes {
		var asked []int
		for other, bytes := range sizes {
			if other != class {
				asked = append(asked, bytes)
			}
		}
		w := of(t, 7, asked...)
		w.same(t)
		w.gives(t, size, 0, api.ErrFull)
		w.same(t)
		for other, bytes := range sizes {
			if other != class && other < 7 {
				w.give(t, bytes)
			}
		}
		w.gives(t, size, 0, api.ErrFull)
		w.same(t)
	}
}

// P11.2: Class's error, of an arena that has room, and ahead of ErrFull of one that is full; nothing has changed behind an error.
func TestGiveWrong(t *testing.T) {
	for _, w := range []watched{of(t, 1), of(t, 2, 32, 0, 500), filled(t, 1, 0), filled(t, 2, 7), filled(t, 256, 3)} {
		for _, bytes := range []int{math.MinInt, math.MinInt32, -1024, -2, -1} {
			w.gives(t, bytes, 0, api.ErrArg)
		}
		for _, bytes := range []int{1025, 1026, 2048, 1 << 32, 1<<32 + 1, math.MaxInt32, math.MaxInt} {
			w.gives(t, bytes, 0, api.ErrLong)
		}
		w.same(t)
	}
}

// P11.2: what is done with one arena is nothing to another.
func TestTwo(t *testing.T) {
	v, w := of(t, 2, 32, 486), of(t, 2)
	w.same(t)
	w.gives(t, 1000, 0, api.OK)
	v.same(t)
	v.takes(t, 0, api.OK)
	w.same(t)
	w.takes(t, 0, api.OK)
	v.same(t)
	w.same(t)
}
