package lru_test

import (
	"slices"
	"testing"

	"icehouse/api"
	"icehouse/lru"
)

// P12.3: of lists that there are not Oldest and Newest are ErrArg, Len is 0, All nothing, whatever stands in the others.
func TestToldWrong(t *testing.T) {
	for _, size := range [][2]int{{1, 1}, {6, 3}, {64, 64}, {300, 8}} {
		numbers, lists := size[0], size[1]
		w := of(t, numbers, lists)
		for range 2 {
			for _, list := range wrong(lists) {
				w.list(t, list, nil)
				if n, err := w.l.Oldest(list); n != 0 || err != api.ErrArg {
					t.Errorf("Oldest(%d) is %d, error %d", list, n, err)
				}
				if n, err := w.l.Newest(list); n != 0 || err != api.ErrArg {
					t.Errorf("Newest(%d) is %d, error %d", list, n, err)
				}
			}
			for number := range numbers {
				w.push(t, number%lists, number)
			}
		}
	}
}

// P12.3: of lists of which nothing stands in one Oldest and Newest are ErrNone: as they are made, behind all was removed, and beside lists that have some.
func TestToldNone(t *testing.T) {
	w := of(t, 6, 3)
	none := func(lists ...int) {
		t.Helper()
		for _, list := range lists {
			w.list(t, list, nil)
			if n, err := w.l.Oldest(list); n != 0 || err != api.ErrNone {
				t.Errorf("Oldest(%d) is %d, error %d", list, n, err)
			}
			if n, err := w.l.Newest(list); n != 0 || err != api.ErrNone {
				t.Errorf("Newest(%d) is %d, error %d", list, n, err)
			}
		}
		w.same(t)
	}
	for range 2 {
		none(0, 1, 2)
		w.pushes(t, 1, 0, api.OK)
		w.pushes(t, 1, 5, api.OK)
		none(0, 2)
		w.removes(t, 5, api.OK)
		w.removes(t, 0, api.OK)
		none(0, 1, 2)
		for number := range 6 {
			w.pushes(t, 2, number, api.OK)
		}
		none(0, 1)
		for number := range 6 {
			w.removes(t, number, api.OK)
		}
	}
}

// P12.3: all numbers in one list, as many as there can be.
func TestAllInOne(t *testing.T) {
	for _, numbers := range []int{1, 2, 64, 8192, 65536} {
		for _, list := range []int{0, 63} {
			w := filled(t, numbers, 64, list, upTo(numbers)...)
			asked := upTo(numbers)
			slices.Reverse(asked)
			w.list(t, list, asked)
			w.list(t, 63-list, nil)
			for number := range numbers {
				w.touches(t, numbers-1-number, api.OK)
			}
			w.list(t, list, upTo(numbers))
			for number := range numbers {
				w.where(t, number)
			}
		}
	}
}

// deed is what is done while, or before, a list is gone through; number is the one that is told.
type deed func(t *testing.T, w watched, number int)

// deeds change the list 0 of the numbers 0 to 4.
func deeds() []deed {
	return []deed{
		func(t *testing.T, w watched, number int) { w.remove(t, number) },
		func(t *testing.T, w watched, number int) { w.touch(t, number) },
		func(t *testing.T, w watched, number int) { w.touch(t, (number+1)%5) },
		func(t *testing.T, w watched, number int) { w.remove(t, (number+1)%5) },
		func(t *testing.T, w watched, number int) { w.remove(t, (number+4)%5) },
		func(t *testing.T, w watched, number int) { w.push(t, 0, number+5) },
		func(t *testing.T, w watched, number int) { w.push(t, 1, number+5) },
		func(t *testing.T, w watched, number int) {
			w.remove(t, number)
			w.push(t, 1, number)
		},
		func(t *testing.T, w watched, number int) {
			for n := range 5 {
				w.remove(t, n)
				w.push(t, 1, n)
			}
		},
		func(t *testing.T, w watched, number int) {
			for n := range 5 {
				w.remove(t, n)
			}
			for n := range 10 {
				w.push(t, 0, n)
			}
		},
	}
}

// P12.3: All is of the moment at which it was called, whatever is done with the lists since, also between two times that it is gone through.
func TestAllStays(t *testing.T) {
	asked := []int{4, 3, 2, 1, 0}
	for i, deed := range deeds() {
		for number := range 5 {
			w := filled(t, 10, 2, 0, upTo(5)...)
			all, empty := w.l.All(0), w.l.All(1)
			for range 2 {
				deed(t, w, number)
				if l := slices.Collect(all); !slices.Equal(l, asked) {
					t.Errorf("deed %d of %d: All tells %v", i, number, l)
				}
				if l := slices.Collect(empty); len(l) != 0 {
					t.Errorf("deed %d of %d: All of an empty list tells %v", i, number, l)
				}
			}
			w.same(t)
		}
	}
}

// P12.3: the lists may be changed by who goes through one; what is told does not hang on it.
func TestAllMeanwhile(t *testing.T) {
	for i, deed := range deeds() {
		w := filled(t, 10, 2, 0, upTo(5)...)
		var l []int
		for number := range w.l.All(0) {
			l = append(l, number)
			deed(t, w, number)
			w.same(t)
		}
		if !slices.Equal(l, []int{4, 3, 2, 1, 0}) {
			t.Errorf("deed %d: All tells %v", i, l)
		}
	}
}

// R6: it may be left early at each place, and gone through again, within itself too.
func TestAllLeft(t *testing.T) {
	asked := []int{4, 3, 2, 1, 0}
	w := filled(t, 5, 1, 0, upTo(5)...)
	all := w.l.All(0)
	for n := range len(asked) + 1 {
		var l []int
		for number := range all {
			if len(l) == n {
				break
			}
			l = append(l, number)
			if m := slices.Collect(all); !slices.Equal(m, asked) {
				t.Fatalf("within itself All tells %v", m)
			}
		}
		if !slices.Equal(l, asked[:n]) {
			t.Errorf("left behind %d, All tells %v", n, l)
		}
		if m := slices.Collect(all); !slices.Equal(m, asked) {
			t.Errorf("once more All tells %v", m)
		}
	}
	w.same(t)
}

// R6: behind a no nothing more is told.
func TestAllStops(t *testing.T) {
	w := filled(t, 5, 1, 0, upTo(5)...)
	for last := range 5 {
		var l []int
		w.l.All(0)(func(number int) bool {
			l = append(l, number)
			return len(l) <= last
		})
		if !slices.Equal(l, []int{4, 3, 2, 1, 0}[:last+1]) {
			t.Errorf("stopped behind %d, All tells %v", last+1, l)
		}
	}
}

// P12.3: what is told of one list, while others are told, too.
func TestAllSideBySide(t *testing.T) {
	w := of(t, 9, 3)
	for number := range 9 {
		w.pushes(t, number%3, number, api.OK)
	}
	var l [][3]int
	for a := range w.l.All(0) {
		for b := range w.l.All(1) {
			for c := range w.l.All(2) {
				l = append(l, [3]int{a, b, c})
			}
		}
	}
	var asked [][3]int
	for _, a := range []int{6, 3, 0} {
		for _, b := range []int{7, 4, 1} {
			for _, c := range []int{8, 5, 2} {
				asked = append(asked, [3]int{a, b, c})
			}
		}
	}
	if !slices.Equal(l, asked) {
		t.Errorf("told are %v", l)
	}
}

// R5: what is asked changes nothing: asking twice answers the same.
func TestAskedTwice(t *testing.T) {
	w := filled(t, 7, 2, 1, 6, 2, 4, 0)
	for range 3 {
		w.same(t)
		for list := -1; list <= 2; list++ {
			w.l.All(list)
			w.l.Oldest(list)
			w.l.Newest(list)
			w.l.Len(list)
		}
		for number := -1; number <= 7; number++ {
			w.l.Where(number)
		}
	}
	w.list(t, 1, []int{0, 4, 2, 6})
}

// R4: an error of Where, Oldest and Newest has no number beside it, though there are lists and numbers above 0.
func TestZeroBesideErrors(t *testing.T) {
	l, _ := lru.New(4, 4)
	l.Push(2, 3)
	l.Push(2, 1)
	l.Remove(3)
	for _, number := range []int{-1, 0, 2, 3, 4} {
		if n, err := l.Where(number); n != 0 || err == api.OK {
			t.Errorf("Where(%d) is %d, error %d", number, n, err)
		}
	}
	l.Remove(1)
	for list := -1; list <= 4; list++ {
		n, err := l.Oldest(list)
		m, other := l.Newest(list)
		if n != 0 || m != 0 || err == api.OK || other != err {
			t.Errorf("of list %d Oldest is %d, error %d; Newest %d, error %d", list, n, err, m, other)
		}
	}
}
