package lru_test

import (
	"slices"
	"testing"

	"icehouse/api"
)

// P12.2: what is pushed is the newest one, whatever its number.
func TestPushIsNewest(t *testing.T) {
	for _, order := range [][]int{{0, 1, 2, 3, 4}, {4, 3, 2, 1, 0}, {2, 0, 4, 1, 3}, {3, 4, 0, 2, 1}} {
		for list := range 3 {
			w := of(t, 5, 3)
			var asked []int
			for _, number := range order {
				w.pushes(t, list, number, api.OK)
				asked = append([]int{number}, asked...)
				w.list(t, list, asked)
				w.same(t)
			}
		}
	}
}

// P12.2: Push of a number that stands in that list, or in another one, is refused, and it stays where it stood, in its order.
func TestPushThere(t *testing.T) {
	w := filled(t, 6, 3, 1, 5, 0, 3)
	w.pushes(t, 2, 4, api.OK)
	for list := range 3 {
		for _, number := range []int{5, 0, 3, 4} {
			w.pushes(t, list, number, api.ErrThere)
			w.same(t)
		}
	}
	w.list(t, 0, nil)
	w.list(t, 1, []int{3, 0, 5})
	w.list(t, 2, []int{4})
}

// P12.2: a number that was removed can be pushed, to the list in which it stood, and to another one.
func TestPushRemoved(t *testing.T) {
	for list := range 3 {
		for _, number := range []int{5, 0, 3} {
			w := filled(t, 6, 3, 1, 5, 0, 3)
			w.removes(t, number, api.OK)
			w.same(t)
			w.pushes(t, list, number, api.OK)
			w.same(t)
			w.pushes(t, list, number, api.ErrThere)
			if n, err := w.l.Newest(list); n != number || err != api.OK {
				t.Errorf("Newest(%d) behind Push(%d) is %d, error %d", list, number, n, err)
			}
			w.same(t)
		}
	}
}

// P12.2: ErrArg of lists and numbers that there are not, alone and together, ahead of ErrThere; nothing has changed.
func TestPushWrong(t *testing.T) {
	for _, size := range [][2]int{{1, 1}, {6, 3}, {64, 64}, {300, 8}} {
		numbers, lists := size[0], size[1]
		for _, w := range []watched{of(t, numbers, lists), filled(t, numbers, lists, lists-1, upTo(numbers)...)} {
			for _, list := range wrong(lists) {
				w.pushes(t, list, 0, api.ErrArg)
				w.pushes(t, list, numbers-1, api.ErrArg)
				for _, number := range wrong(numbers) {
					w.pushes(t, list, number, api.ErrArg)
				}
			}
			for _, number := range wrong(numbers) {
				w.pushes(t, 0, number, api.ErrArg)
				w.pushes(t, lists-1, number, api.ErrArg)
			}
			w.same(t)
		}
	}
}

// P12.2: Touch and Remove: ErrArg of numbers that there are not, ErrNone of those that stand in no list, of which none was pushed, or each was removed; nothing has changed.
func TestTouchRemoveWrong(t *testing.T) {
	for _, size := range [][2]int{{1, 1}, {6, 3}, {64, 64}, {300, 8}} {
		numbers, lists := size[0], size[1]
		w := of(t, numbers, lists)
		for lap := range 3 {
			for _, number := range wrong(numbers) {
				w.touches(t, number, api.ErrArg)
				w.removes(t, number, api.ErrArg)
			}
			for number := range numbers {
				w.touches(t, number, api.ErrNone)
				w.removes(t, number, api.ErrNone)
			}
			w.same(t)
			for number := range numbers {
				w.pushes(t, (number+lap)%lists, number, api.OK)
			}
			for _, number := range wrong(numbers) {
				w.touches(t, number, api.ErrArg)
				w.removes(t, number, api.ErrArg)
			}
			w.same(t)
			for number := range numbers {
				w.removes(t, number, api.OK)
			}
		}
	}
}

// without is the list without that number.
func without(l []int, number int) []int {
	return slices.DeleteFunc(slices.Clone(l), func(n int) bool { return n == number })
}

// P12.2: Touch of the newest one, of the oldest one, of each between, and of the only one: it is the newest one of its list, all others stay as they stood.
func TestTouch(t *testing.T) {
	for _, pushed := range [][]int{{2}, {2, 0}, {3, 1, 2}, {4, 0, 3, 1}, {0, 1, 2, 3, 4, 5}} {
		for list := range 3 {
			for _, number := range pushed {
				w := filled(t, 8, 3, list, pushed...)
				w.pushes(t, (list+1)%3, 7, api.OK)
				w.touches(t, number, api.OK)
				asked := append(without(pushed, number), number)
				slices.Reverse(asked)
				w.list(t, list, asked)
				w.list(t, (list+1)%3, []int{7})
				w.same(t)
				w.touches(t, number, api.OK)
				w.list(t, list, asked)
				w.same(t)
			}
		}
	}
}

// P12.2: Remove of the newest one, of the oldest one, of each between, and of the only one: it stands in no list, all others stay as they stood.
func TestRemove(t *testing.T) {
	for _, pushed := range [][]int{{2}, {2, 0}, {3, 1, 2}, {4, 0, 3, 1}, {0, 1, 2, 3, 4, 5}} {
		for list := range 3 {
			for _, number := range pushed {
				w := filled(t, 8, 3, list, pushed...)
				w.pushes(t, (list+1)%3, 7, api.OK)
				w.removes(t, number, api.OK)
				asked := without(pushed, number)
				slices.Reverse(asked)
				w.list(t, list, asked)
				w.list(t, (list+1)%3, []int{7})
				w.same(t)
				w.removes(t, number, api.ErrNone)
				w.touches(t, number, api.ErrNone)
				w.same(t)
			}
		}
	}
}

// P12.2: two are removed, in each order, and pushed once more to whichever lists.
func TestRemoveTwo(t *testing.T) {
	for a := range 5 {
		for b := range 5 {
			for list := range 2 {
				w := filled(t, 5, 2, 0, upTo(5)...)
				w.removes(t, a, api.OK)
				if a != b {
					w.removes(t, b, api.OK)
					w.same(t)
					w.pushes(t, 1-list, b, api.OK)
				}
				w.same(t)
				w.pushes(t, list, a, api.OK)
				w.same(t)
			}
		}
	}
}

// P12.3: where each number stands, when each list has some, and one has none.
func TestWhere(t *testing.T) {
	w := of(t, 12, 5)
	for number := range 12 {
		w.pushes(t, number%4, number, api.OK)
	}
	for number := range 12 {
		if list, err := w.l.Where(number); list != number%4 || err != api.OK {
			t.Errorf("Where(%d) is %d, error %d", number, list, err)
		}
	}
	w.list(t, 4, nil)
	for _, number := range wrong(12) {
		w.where(t, number)
	}
	w.same(t)
}
