package lru_test

import (
	"math"
	"slices"
	"testing"

	"icehouse/api"
	"icehouse/lru"
)

// The chapter's examples: P12.1 to P12.3.
func TestExamples(t *testing.T) {
	l, err := lru.New(5, 2)
	if err != api.OK {
		t.Fatalf("New(5, 2): error %d", err)
	}
	if a, b, c, d := l.Push(0, 3), l.Push(0, 1), l.Push(1, 4), l.Push(1, 3); a != api.OK || b != api.OK || c != api.OK || d != api.ErrThere {
		t.Errorf("Push: %d, %d, %d, %d", a, b, c, d)
	}
	if all := gone(l, 0); !slices.Equal(all, []int{1, 3}) {
		t.Errorf("All(0) is %v", all)
	}
	if err := l.Touch(3); err != api.OK {
		t.Errorf("Touch(3) is %d", err)
	}
	if all := gone(l, 0); !slices.Equal(all, []int{3, 1}) {
		t.Errorf("All(0) behind Touch(3) is %v", all)
	}
	if n, err := l.Oldest(0); n != 1 || err != api.OK {
		t.Errorf("Oldest(0) is %d, error %d", n, err)
	}
	if err := l.Remove(1); err != api.OK {
		t.Errorf("Remove(1) is %d", err)
	}
	if n, err := l.Where(1); n != 0 || err != api.ErrNone {
		t.Errorf("Where(1) is %d, error %d", n, err)
	}
	if n, err := l.Where(3); n != 0 || err != api.OK {
		t.Errorf("Where(3) is %d, error %d", n, err)
	}
	if n := l.Len(0); n != 1 {
		t.Errorf("Len(0) is %d", n)
	}
	if n, err := l.Oldest(1); n != 4 || err != api.OK {
		t.Errorf("Oldest(1) is %d, error %d", n, err)
	}
	if a, b, c := l.Push(2, 0), l.Push(0, 5), l.Touch(-1); a != api.ErrArg || b != api.ErrArg || c != api.ErrArg {
		t.Errorf("Push(2, 0) is %d, Push(0, 5) %d, Touch(-1) %d", a, b, c)
	}
	for _, n := range [][2]int{{0, 1}, {1, 65}} {
		if l, err := lru.New(n[0], n[1]); l != nil || err != api.ErrArg {
			t.Errorf("New(%d, %d) is %v, error %d", n[0], n[1], l, err)
		}
	}
}

// P12.1: how many numbers and lists may be, and how many may not.
func TestNew(t *testing.T) {
	right := [2][]int{{1, 2, 63, 64, 65, 8192, 65535, 65536}, {1, 2, 8, 63, 64}}
	wrong := [2][]int{
		{math.MinInt, math.MinInt32, -65536, -65535, -64, -2, -1, 0, 65537, 65538, 131072, math.MaxInt32, 1 << 32, 1<<32 + 1, math.MaxInt},
		{math.MinInt, math.MinInt32, -65536, -64, -63, -2, -1, 0, 65, 66, 128, 256, 257, 65536, math.MaxInt32, 1 << 32, 1<<32 + 1, math.MaxInt},
	}
	for i, numbers := range slices.Concat(right[0], wrong[0]) {
		for j, lists := range slices.Concat(right[1], wrong[1]) {
			l, err := lru.New(numbers, lists)
			if i < len(right[0]) && j < len(right[1]) {
				if l == nil || err != api.OK {
					t.Errorf("New(%d, %d) is %v, error %d", numbers, lists, l, err)
				}
			} else if l != nil || err != api.ErrArg {
				t.Errorf("New(%d, %d) is not nil, or error %d", numbers, lists, err)
			}
		}
	}
}

// P12.1: lists as they are made: nothing stands in one; all numbers and lists that were asked for are there, no others.
func TestNewIsEmpty(t *testing.T) {
	for _, numbers := range []int{1, 2, 3, 62, 63, 64, 65, 127, 128, 129, 1000, 65471, 65472, 65473, 65535, 65536} {
		for _, lists := range []int{1, 2, 3, 8, 63, 64} {
			w := of(t, numbers, lists)
			if numbers < 200 {
				w.same(t)
			}
			for list := range lists {
				w.list(t, list, nil)
			}
			for _, number := range append(wrong(numbers), 0, numbers/2, numbers-1) {
				w.where(t, number)
			}
			w.pushes(t, lists-1, numbers-1, api.OK)
			w.pushes(t, lists, 0, api.ErrArg)
			w.pushes(t, 0, numbers, api.ErrArg)
			w.list(t, lists-1, []int{numbers - 1})
			w.list(t, lists, nil)
		}
	}
}

// P12.1, P12.2: numbers of each size, and lists of each size: each number has a place of its own, whatever stands beside it.
func TestEachSize(t *testing.T) {
	for numbers := 1; numbers <= 140; numbers++ {
		for _, lists := range []int{1, 2, 5, 63, 64} {
			w := of(t, numbers, lists)
			for number := range numbers {
				w.pushes(t, number*7%lists, number, api.OK)
			}
			w.same(t)
			for number := range numbers {
				w.pushes(t, (number+1)*7%lists, number, api.ErrThere)
				w.touches(t, number, api.OK)
			}
			w.same(t)
			for number := 0; number < numbers; number += 2 {
				w.removes(t, number, api.OK)
			}
			w.same(t)
		}
	}
}

// P12.1: each number of lists has so many.
func TestEachNumberOfLists(t *testing.T) {
	for lists := 1; lists <= 64; lists++ {
		w := of(t, 64, lists)
		for number := range 64 {
			w.push(t, number, number)
			w.push(t, number%lists, number)
		}
		w.same(t)
	}
}

// R4: of a nil one an error is ErrNil, ahead of all else, and all else is nothing.
func TestNil(t *testing.T) {
	var l *lru.Lists
	edges := []int{math.MinInt, -1, 0, 1, 63, 64, 65535, 65536, math.MaxInt}
	for _, i := range edges {
		for _, j := range edges {
			if err := l.Push(i, j); err != api.ErrNil {
				t.Errorf("Push(%d, %d) is %d", i, j, err)
			}
		}
		if a, b := l.Touch(i), l.Remove(i); a != api.ErrNil || b != api.ErrNil {
			t.Errorf("Touch(%d) is %d, Remove %d", i, a, b)
		}
		if n, err := l.Oldest(i); n != 0 || err != api.ErrNil {
			t.Errorf("Oldest(%d) is %d, error %d", i, n, err)
		}
		if n, err := l.Newest(i); n != 0 || err != api.ErrNil {
			t.Errorf("Newest(%d) is %d, error %d", i, n, err)
		}
		if n, err := l.Where(i); n != 0 || err != api.ErrNil {
			t.Errorf("Where(%d) is %d, error %d", i, n, err)
		}
		if n := l.Len(i); n != 0 {
			t.Errorf("Len(%d) is %d", i, n)
		}
		all := l.All(i)
		for range 2 {
			for number := range all {
				t.Errorf("All(%d) tells %d", i, number)
			}
		}
	}
}

// P12.2: one number in one list.
func TestOneNumber(t *testing.T) {
	w := of(t, 1, 1)
	for range 3 {
		w.touches(t, 0, api.ErrNone)
		w.removes(t, 0, api.ErrNone)
		w.same(t)
		w.pushes(t, 0, 0, api.OK)
		w.list(t, 0, []int{0})
		w.same(t)
		w.pushes(t, 0, 0, api.ErrThere)
		w.pushes(t, 1, 0, api.ErrArg)
		w.pushes(t, 0, 1, api.ErrArg)
		w.touches(t, 0, api.OK)
		w.touches(t, 1, api.ErrArg)
		w.removes(t, 1, api.ErrArg)
		w.same(t)
		w.removes(t, 0, api.OK)
		w.list(t, 0, nil)
		w.same(t)
	}
}

// P12.2, P12.3: the least and greatest numbers and lists that there are, and those beside them, where there are as many as can be.
func TestGreatest(t *testing.T) {
	w := of(t, 65536, 64)
	for _, list := range []int{0, 63} {
		for _, number := range []int{0, 1, 32768, 65534, 65535} {
			w.pushes(t, list, number, api.OK)
		}
		w.list(t, list, []int{65535, 65534, 32768, 1, 0})
		w.list(t, 63-list, nil)
		w.pushes(t, list, 65536, api.ErrArg)
		w.pushes(t, list, -1, api.ErrArg)
		w.pushes(t, 64, 65535, api.ErrArg)
		w.pushes(t, -1, 0, api.ErrArg)
		w.touches(t, 0, api.OK)
		w.touches(t, 65536, api.ErrArg)
		w.touches(t, -1, api.ErrArg)
		w.list(t, list, []int{0, 65535, 65534, 32768, 1})
		w.removes(t, 65536, api.ErrArg)
		w.removes(t, -1, api.ErrArg)
		w.removes(t, 65534, api.OK)
		w.where(t, 65535)
		w.list(t, list, []int{0, 65535, 32768, 1})
		for _, number := range []int{0, 1, 32768, 65535} {
			w.removes(t, number, api.OK)
		}
		w.list(t, list, nil)
	}
}

// P12.1: what is done with one lot of lists is nothing to another.
func TestTwo(t *testing.T) {
	v, w := filled(t, 3, 2, 0, 0, 1), of(t, 3, 2)
	w.same(t)
	w.pushes(t, 1, 0, api.OK)
	w.pushes(t, 1, 1, api.OK)
	v.same(t)
	v.touches(t, 0, api.OK)
	w.same(t)
	w.touches(t, 2, api.ErrNone)
	v.removes(t, 1, api.OK)
	w.same(t)
	w.removes(t, 0, api.OK)
	v.same(t)
	w.same(t)
}
