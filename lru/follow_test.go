package lru_test

import (
	"slices"
	"testing"

	"icehouse/api"
)

// drain goes to the oldest one of the list again and again, and removes it; it tells all that it got.
func (w watched) drain(t *testing.T, list int) []int {
	t.Helper()
	var got []int
	for w.l.Len(list) > 0 {
		number, err := w.l.Oldest(list)
		if err != api.OK {
			t.Fatalf("Oldest(%d) of %d is error %d", list, w.l.Len(list), err)
		}
		got = append(got, number)
		w.removes(t, number, api.OK)
	}
	w.list(t, list, nil)
	return got
}

// P12.4: who goes to the oldest one again and again, and removes it, gets them all, each once, in the order in which they were pushed or touched last.
func TestDrain(t *testing.T) {
	for _, numbers := range []int{1, 2, 7, 64, 200, 65536} {
		for _, step := range []int{0, 1, 2, 3, 4099} {
			w := of(t, numbers, 2)
			for number := range numbers {
				w.pushes(t, number%2, number, api.OK)
			}
			for i := range numbers {
				w.touches(t, i*step%numbers, api.OK)
			}
			for _, list := range []int{1, 0} {
				asked := w.p.all(list)
				slices.Reverse(asked)
				if got := w.drain(t, list); !slices.Equal(got, asked) {
					t.Fatalf("of %d numbers, touched by steps of %d, list %d tells %v; asked is %v", numbers, step, list, got, asked)
				}
			}
			for number := range numbers {
				w.where(t, number)
			}
		}
	}
}

// P12.4: the same, told by the words alone: pushed by rising numbers, some touched, in this order.
func TestDrainOrder(t *testing.T) {
	for _, c := range []struct{ touched, asked []int }{
		{nil, []int{0, 1, 2, 3, 4}},
		{[]int{4}, []int{0, 1, 2, 3, 4}},
		{[]int{0}, []int{1, 2, 3, 4, 0}},
		{[]int{2, 2}, []int{0, 1, 3, 4, 2}},
		{[]int{3, 1}, []int{0, 2, 4, 3, 1}},
		{[]int{0, 1, 2, 3, 4}, []int{0, 1, 2, 3, 4}},
		{[]int{4, 3, 2, 1, 0}, []int{4, 3, 2, 1, 0}},
		{[]int{0, 4, 0, 3, 0}, []int{1, 2, 4, 3, 0}},
	} {
		w := filled(t, 5, 1, 0, upTo(5)...)
		for _, number := range c.touched {
			w.touches(t, number, api.OK)
		}
		if got := w.drain(t, 0); !slices.Equal(got, c.asked) {
			t.Errorf("touched %v, the list tells %v; asked is %v", c.touched, got, c.asked)
		}
	}
}

// P12.4: what is done in one list changes no other one: each deed in each list, with the others asked for all they have.
func TestOtherLists(t *testing.T) {
	const lists, numbers = 5, 25
	for list := range lists {
		w := of(t, numbers, lists)
		for number := range numbers {
			if number < 20 {
				w.pushes(t, number%lists, number, api.OK)
			}
		}
		others := func() [][]int {
			var l [][]int
			for other := range lists {
				if other != list {
					oldest, _ := w.l.Oldest(other)
					newest, _ := w.l.Newest(other)
					l = append(l, gone(w.l, other), []int{oldest, newest, w.l.Len(other)})
				}
			}
			return l
		}
		asked := others()
		for _, deed := range []func(){
			func() { w.pushes(t, list, 24, api.OK) },
			func() { w.touches(t, list, api.OK) },
			func() { w.touches(t, 24, api.OK) },
			func() { w.removes(t, list+5, api.OK) },
			func() { w.pushes(t, list, 20, api.OK) },
			func() { w.pushes(t, list, (list+1)%lists, api.ErrThere) },
			func() { w.drain(t, list) },
			func() { w.pushes(t, list, 21, api.OK) },
		} {
			deed()
			if l := others(); !slices.EqualFunc(l, asked, slices.Equal[[]int]) {
				t.Fatalf("behind a deed in list %d the others are %v; they were %v", list, l, asked)
			}
			w.same(t)
		}
	}
}

// P12.2 to P12.4: all sequences of so many deeds with few numbers and lists.
func TestEachSequence(t *testing.T) {
	for _, c := range []struct{ numbers, lists, length int }{{1, 1, 6}, {1, 3, 5}, {2, 1, 6}, {2, 2, 5}, {3, 1, 5}, {3, 2, 5}, {4, 1, 5}} {
		all, each := 1, c.numbers*(c.lists+2)
		for range c.length {
			all *= each
		}
		for sequence := range all {
			w := of(t, c.numbers, c.lists)
			for range c.length {
				w.one(t, sequence%each)
				sequence /= each
			}
			w.same(t)
		}
	}
}

// one is one of the deeds that can be done: each number can be pushed to each list, touched and removed.
func (w watched) one(t *testing.T, deed int) {
	t.Helper()
	number, what := deed%len(w.p.in), deed/len(w.p.in)
	switch what - w.p.lists {
	case 0:
		w.touch(t, number)
	case 1:
		w.remove(t, number)
	default:
		w.push(t, what, number)
	}
}

// run is a long run: so many deeds, of which for a while most push, then most remove.
type run struct {
	numbers, lists, deeds int
	phase                 int
	seed                  uint64
}

// P12.2 to P12.4: long runs of Push, Touch and Remove, in which numbers come and go many times as often as there are numbers.
func TestLongRuns(t *testing.T) {
	for _, r := range []run{
		{1, 1, 500, 9, 1},
		{1, 64, 1500, 12, 2},
		{2, 2, 2000, 10, 3},
		{3, 1, 2000, 20, 4},
		{5, 3, 4000, 30, 5},
		{10, 4, 6000, 60, 6},
		{40, 8, 10000, 200, 7},
		{63, 1, 10000, 300, 8},
		{64, 64, 10000, 300, 9},
		{130, 5, 20000, 700, 10},
		{300, 8, 30000, 1500, 11},
	} {
		r.walk(t)
	}
}

// walk does all of the run's deeds.
func (r run) walk(t *testing.T) {
	t.Helper()
	w, d := of(t, r.numbers, r.lists), &drawn{r.seed}
	came, went, touched := 0, 0, 0
	for i := range r.deeds {
		coming := d.below(10) < 7
		if i/r.phase%2 == 1 {
			coming = !coming
		}
		number := r.number(d)
		switch {
		case d.below(3) == 0:
			if w.touch(t, number) == api.OK {
				touched++
			}
		case coming:
			if w.push(t, r.list(d), number) == api.OK {
				came++
			}
		case w.remove(t, r.gone(w, d, number)) == api.OK:
			went++
		}
		if r.numbers <= 10 || i%(r.numbers/4) == 0 {
			w.same(t)
		}
	}
	w.same(t)
	for list := range r.lists {
		asked := w.p.all(list)
		slices.Reverse(asked)
		if got := w.drain(t, list); !slices.Equal(got, asked) {
			t.Fatalf("run %v: list %d tells %v; asked is %v", r, list, got, asked)
		}
	}
	w.same(t)
	if many := 10 * r.numbers; came < many || went < many || touched < many {
		t.Errorf("run %v: only %d came, %d went, %d were touched", r, came, went, touched)
	}
}

// number is mostly one that there is.
func (r run) number(d *drawn) int {
	if d.below(30) == 0 {
		return d.below(2*r.numbers+140) - 70
	}
	return d.below(r.numbers)
}

// list is mostly one that there is.
func (r run) list(d *drawn) int {
	if d.below(30) == 0 {
		return d.below(2*r.lists+6) - 3
	}
	return d.below(r.lists)
}

// gone is which number is removed: that one, or the oldest or the newest of a list.
func (r run) gone(w watched, d *drawn, number int) int {
	list := d.below(r.lists)
	if len(w.p.all(list)) == 0 {
		return number
	}
	switch d.below(4) {
	case 0:
		number, _ = w.l.Oldest(list)
	case 1:
		number, _ = w.l.Newest(list)
	}
	return number
}

// P12.4: laps: all numbers go from list to list, the oldest ones first, many times round.
func TestLaps(t *testing.T) {
	for _, size := range [][2]int{{1, 2}, {5, 3}, {64, 8}, {200, 64}} {
		numbers, lists := size[0], size[1]
		w := filled(t, numbers, lists, 0, upTo(numbers)...)
		for step := range 5 * lists {
			from, to := step%lists, (step+1)%lists
			for range numbers {
				number, err := w.l.Oldest(from)
				if err != api.OK {
					t.Fatalf("step %d: Oldest(%d) is error %d", step, from, err)
				}
				w.removes(t, number, api.OK)
				w.pushes(t, to, number, api.OK)
			}
			asked := upTo(numbers)
			slices.Reverse(asked)
			w.list(t, from, nil)
			w.list(t, to, asked)
			w.same(t)
		}
	}
}
