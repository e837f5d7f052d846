package slab_test

import (
	"math"
	"testing"

	"icehouse/api"
	"icehouse/slab"
)

// The classes of the chapter: the bytes of a chunk, and how many chunks a page has.
var (
	sizes  = []int{32, 64, 96, 144, 216, 324, 486, 1024}
	chunks = []int{32, 16, 10, 7, 4, 3, 2, 1}
)

// noClasses are numbers of classes that there are not.
var noClasses = []int{math.MinInt, math.MinInt32, -8, -2, -1, 8, 9, 31, 32, 64, 256, 1024, math.MaxInt32, math.MaxInt}

// farOff are chunks' numbers that no arena has.
var farOff = []int{math.MinInt, math.MinInt + 1, math.MinInt32, -1024, -64, -33, -32, -31, -2, -1, 32 * 256, 32*256 + 1, 1 << 32, 1<<32 + 1, math.MaxInt32, math.MaxInt - 31, math.MaxInt - 1, math.MaxInt}

// classAsked is what Class is to answer.
func classAsked(bytes int) (int, api.Errno) {
	if bytes < 0 {
		return 0, api.ErrArg
	}
	if bytes > 1024 {
		return 0, api.ErrLong
	}
	class := 0
	for sizes[class] < bytes {
		class++
	}
	return class, api.OK
}

// noClass is what a chunk that is not given has in a plain arena, and a free page.
const noClass = -1

// plain is the chapter's words: of each chunk's number its class, or none. The class of a page is that of its chunks.
type plain struct {
	classes []int
}

func plainOf(pages int) *plain {
	p := &plain{}
	for range pages * 32 {
		p.classes = append(p.classes, noClass)
	}
	return p
}

// copied is the same one in memory of its own.
func (p *plain) copied() *plain {
	return &plain{append([]int(nil), p.classes...)}
}

// pages is how many pages there are.
func (p *plain) pages() int { return len(p.classes) / 32 }

// pageClass is the class of a page.
func (p *plain) pageClass(page int) int {
	for _, class := range p.classes[32*page : 32*page+32] {
		if class != noClass {
			return class
		}
	}
	return noClass
}

func (p *plain) give(bytes int) (int, api.Errno) {
	class, err := classAsked(bytes)
	if err != api.OK {
		return 0, err
	}
	for page := range p.pages() {
		if p.pageClass(page) != class {
			continue
		}
		for chunk := 32 * page; chunk < 32*page+chunks[class]; chunk++ {
			if p.classes[chunk] == noClass {
				p.classes[chunk] = class
				return chunk, api.OK
			}
		}
	}
	for page := range p.pages() {
		if p.pageClass(page) == noClass {
			p.classes[32*page] = class
			return 32 * page, api.OK
		}
	}
	return 0, api.ErrFull
}

func (p *plain) where(chunk int) (int, api.Errno) {
	switch {
	case chunk < 0 || chunk >= len(p.classes):
		return 0, api.ErrArg
	case p.classes[chunk] == noClass:
		return 0, api.ErrNone
	}
	return p.classes[chunk], api.OK
}

func (p *plain) take(chunk int) api.Errno {
	_, err := p.where(chunk)
	if err == api.OK {
		p.classes[chunk] = noClass
	}
	return err
}

// given is the numbers of all chunks that are given.
func (p *plain) given() []int {
	var l []int
	for chunk, class := range p.classes {
		if class != noClass {
			l = append(l, chunk)
		}
	}
	return l
}

// watched is an arena, and what it should be.
type watched struct {
	a *slab.Arena
	p *plain
}

// of is an arena of so many pages, of which those many bytes were asked, one behind the other.
func of(t *testing.T, pages int, asked ...int) watched {
	t.Helper()
	a, err := slab.New(pages)
	if a == nil || err != api.OK {
		t.Fatalf("New(%d) is %v, error %d", pages, a, err)
	}
	w := watched{a, plainOf(pages)}
	for _, bytes := range asked {
		w.give(t, bytes)
	}
	return w
}

// filled is an arena of so many pages, all of that class and full.
func filled(t *testing.T, pages, class int) watched {
	t.Helper()
	w := of(t, pages)
	for range pages * chunks[class] {
		if _, err := w.give(t, sizes[class]); err != api.OK {
			t.Fatalf("Give(%d) of %d pages: error %d", sizes[class], pages, err)
		}
	}
	return w
}

// copied is the copy of both.
func (w watched) copied() watched {
	return watched{w.a.Copy(), w.p.copied()}
}

// give gives of both, and holds the answers against each other.
func (w watched) give(t *testing.T, bytes int) (int, api.Errno) {
	t.Helper()
	chunk, err := w.a.Give(bytes)
	asked, askedErr := w.p.give(bytes)
	if chunk != asked || err != askedErr {
		t.Fatalf("Give(%d) is %d, error %d; asked is %d, error %d", bytes, chunk, err, asked, askedErr)
	}
	return chunk, err
}

// gives gives of both, and holds the answers against what is asked, too.
func (w watched) gives(t *testing.T, bytes, asked int, askedErr api.Errno) {
	t.Helper()
	if chunk, err := w.give(t, bytes); chunk != asked || err != askedErr {
		t.Fatalf("Give(%d) is %d, error %d; the test asks for %d, error %d", bytes, chunk, err, asked, askedErr)
	}
}

func (w watched) take(t *testing.T, chunk int) api.Errno {
	t.Helper()
	err, asked := w.a.Take(chunk), w.p.take(chunk)
	if err != asked {
		t.Fatalf("Take(%d) is %d; asked is %d", chunk, err, asked)
	}
	return err
}

func (w watched) takes(t *testing.T, chunk int, asked api.Errno) {
	t.Helper()
	if err := w.take(t, chunk); err != asked {
		t.Fatalf("Take(%d) is %d; the test asks for %d", chunk, err, asked)
	}
}

func (w watched) where(t *testing.T, chunk int) {
	t.Helper()
	class, err := w.a.Where(chunk)
	if asked, askedErr := w.p.where(chunk); class != asked || err != askedErr {
		t.Fatalf("Where(%d) is %d, error %d; asked is %d, error %d", chunk, class, err, asked, askedErr)
	}
}

// counts holds Used, Pages and Free against the words.
func (w watched) counts(t *testing.T) {
	t.Helper()
	var used, pages [8]int
	free := 0
	for _, class := range w.p.classes {
		if class != noClass {
			used[class]++
		}
	}
	for page := range w.p.pages() {
		if class := w.p.pageClass(page); class != noClass {
			pages[class]++
		} else {
			free++
		}
	}
	for class := range 8 {
		if n, m := w.a.Used(class), w.a.Pages(class); n != used[class] || m != pages[class] {
			t.Fatalf("of class %d Used is %d and Pages %d; asked is %d and %d", class, n, m, used[class], pages[class])
		}
	}
	if n := w.a.Free(); n != free {
		t.Fatalf("Free is %d; asked is %d", n, free)
	}
}

// same asks everything, and holds it against the words.
func (w watched) same(t *testing.T) {
	t.Helper()
	w.counts(t)
	for chunk := -33; chunk <= len(w.p.classes)+33; chunk++ {
		w.where(t, chunk)
	}
	for _, chunk := range farOff {
		w.where(t, chunk)
	}
	for _, class := range noClasses {
		if n, m := w.a.Used(class), w.a.Pages(class); n != 0 || m != 0 {
			t.Fatalf("of class %d Used is %d and Pages %d", class, n, m)
		}
	}
}

// numbers are told by a rule, the same in every run.
type numbers struct{ last uint64 }

// below tells a number from 0 to n - 1.
func (d *numbers) below(n int) int {
	d.last = d.last*6364136223846793005 + 1442695040888963407
	return int(d.last >> 33 % uint64(n))
}
