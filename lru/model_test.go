package lru_test

import (
	"math"
	"slices"
	"testing"

	"icehouse/api"
	"icehouse/lru"
)

// none is the list of a number that stands in none.
const none = -1

// plain is the chapter's words: of each number its list, and when it was pushed or touched last.
type plain struct {
	in, when []int
	lists    int
	deeds    int
}

func plainOf(numbers, lists int) *plain {
	p := &plain{when: make([]int, numbers), lists: lists}
	for range numbers {
		p.in = append(p.in, none)
	}
	return p
}

func (p *plain) hasList(list int) bool { return list >= 0 && list < p.lists }

func (p *plain) hasNumber(number int) bool { return number >= 0 && number < len(p.in) }

// use writes down that the number was used in that list.
func (p *plain) use(list, number int) {
	p.deeds++
	p.in[number], p.when[number] = list, p.deeds
}

func (p *plain) push(list, number int) api.Errno {
	switch {
	case !p.hasList(list) || !p.hasNumber(number):
		return api.ErrArg
	case p.in[number] != none:
		return api.ErrThere
	}
	p.use(list, number)
	return api.OK
}

func (p *plain) touch(number int) api.Errno {
	list, err := p.where(number)
	if err == api.OK {
		p.use(list, number)
	}
	return err
}

func (p *plain) remove(number int) api.Errno {
	_, err := p.where(number)
	if err == api.OK {
		p.in[number] = none
	}
	return err
}

func (p *plain) where(number int) (int, api.Errno) {
	switch {
	case !p.hasNumber(number):
		return 0, api.ErrArg
	case p.in[number] == none:
		return 0, api.ErrNone
	}
	return p.in[number], api.OK
}

// all is what stands in the list, what was used last first.
func (p *plain) all(list int) []int {
	var l []int
	for number, in := range p.in {
		if in == list && in != none {
			l = append(l, number)
		}
	}
	slices.SortFunc(l, func(a, b int) int { return p.when[b] - p.when[a] })
	return l
}

// watched is lists, and what they should be.
type watched struct {
	l *lru.Lists
	p *plain
}

// of is lists for so many numbers, of which nothing stands in one.
func of(t *testing.T, numbers, lists int) watched {
	t.Helper()
	l, err := lru.New(numbers, lists)
	if l == nil || err != api.OK {
		t.Fatalf("New(%d, %d) is %v, error %d", numbers, lists, l, err)
	}
	return watched{l, plainOf(numbers, lists)}
}

// filled is lists for so many numbers, of which the one list has those, pushed one behind the other.
func filled(t *testing.T, numbers, lists, list int, pushed ...int) watched {
	t.Helper()
	w := of(t, numbers, lists)
	for _, number := range pushed {
		w.pushes(t, list, number, api.OK)
	}
	return w
}

// push pushes to both, and holds the answers against each other.
func (w watched) push(t *testing.T, list, number int) api.Errno {
	t.Helper()
	err, asked := w.l.Push(list, number), w.p.push(list, number)
	if err != asked {
		t.Fatalf("Push(%d, %d) is %d; asked is %d", list, number, err, asked)
	}
	return err
}

// pushes pushes to both, and holds the answers against what the test asks, too.
func (w watched) pushes(t *testing.T, list, number int, asked api.Errno) {
	t.Helper()
	if err := w.push(t, list, number); err != asked {
		t.Fatalf("Push(%d, %d) is %d; the test asks for %d", list, number, err, asked)
	}
}

func (w watched) touch(t *testing.T, number int) api.Errno {
	t.Helper()
	err, asked := w.l.Touch(number), w.p.touch(number)
	if err != asked {
		t.Fatalf("Touch(%d) is %d; asked is %d", number, err, asked)
	}
	return err
}

func (w watched) touches(t *testing.T, number int, asked api.Errno) {
	t.Helper()
	if err := w.touch(t, number); err != asked {
		t.Fatalf("Touch(%d) is %d; the test asks for %d", number, err, asked)
	}
}

func (w watched) remove(t *testing.T, number int) api.Errno {
	t.Helper()
	err, asked := w.l.Remove(number), w.p.remove(number)
	if err != asked {
		t.Fatalf("Remove(%d) is %d; asked is %d", number, err, asked)
	}
	return err
}

func (w watched) removes(t *testing.T, number int, asked api.Errno) {
	t.Helper()
	if err := w.remove(t, number); err != asked {
		t.Fatalf("Remove(%d) is %d; the test asks for %d", number, err, asked)
	}
}

// where holds Where against the words.
func (w watched) where(t *testing.T, number int) {
	t.Helper()
	list, err := w.l.Where(number)
	if asked, askedErr := w.p.where(number); list != asked || err != askedErr {
		t.Fatalf("Where(%d) is %d, error %d; asked is %d, error %d", number, list, err, asked, askedErr)
	}
}

// list holds all that is told of the list against what should stand in it.
func (w watched) list(t *testing.T, list int, asked []int) {
	t.Helper()
	if l := gone(w.l, list); !slices.Equal(l, asked) {
		t.Fatalf("All(%d) tells %v; asked is %v", list, l, asked)
	}
	if n := w.l.Len(list); n != len(asked) {
		t.Fatalf("Len(%d) is %d; asked is %d", list, n, len(asked))
	}
	newest, oldest, askedErr := 0, 0, api.OK
	switch {
	case !w.p.hasList(list):
		askedErr = api.ErrArg
	case len(asked) == 0:
		askedErr = api.ErrNone
	default:
		newest, oldest = asked[0], asked[len(asked)-1]
	}
	if n, err := w.l.Newest(list); n != newest || err != askedErr {
		t.Fatalf("Newest(%d) is %d, error %d; asked is %d, error %d", list, n, err, newest, askedErr)
	}
	if n, err := w.l.Oldest(list); n != oldest || err != askedErr {
		t.Fatalf("Oldest(%d) is %d, error %d; asked is %d, error %d", list, n, err, oldest, askedErr)
	}
}

// same asks everything, and holds it against the words.
func (w watched) same(t *testing.T) {
	t.Helper()
	for list := -1; list <= w.p.lists; list++ {
		w.list(t, list, w.p.all(list))
	}
	for number := -1; number <= len(w.p.in); number++ {
		w.where(t, number)
	}
}

// gone goes through All of the list, to its end.
func gone(l *lru.Lists, list int) []int {
	var told []int
	for number := range l.All(list) {
		told = append(told, number)
	}
	return told
}

// upTo is the numbers 0 to n - 1.
func upTo(n int) []int {
	var l []int
	for i := range n {
		l = append(l, i)
	}
	return l
}

// wrong are numbers and lists that there are not, where there are n.
func wrong(n int) []int {
	return []int{math.MinInt, math.MinInt + 1, math.MinInt32, -65536, -n - 1, -n, -2, -1, n, n + 1, n + 63, n + 64, 2*n + 64, 1<<16 + 64, 1 << 17, math.MaxInt32, 1 << 32, math.MaxInt - 1, math.MaxInt}
}

// drawn are numbers told by a rule, the same in every run.
type drawn struct{ last uint64 }

// below tells a number from 0 to n - 1.
func (d *drawn) below(n int) int {
	d.last = d.last*6364136223846793005 + 1442695040888963407
	return int(d.last >> 33 % uint64(n))
}
