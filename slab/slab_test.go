package slab_test

import (
	"math"
	"testing"

	"icehouse/api"
	"icehouse/slab"
)

// The chapter's examples: P11.1 to P11.4.
func TestExamples(t *testing.T) {
	for _, x := range []struct {
		bytes, class int
		err          api.Errno
	}{{0, 0, api.OK}, {33, 1, api.OK}, {1024, 7, api.OK}, {1025, 0, api.ErrLong}, {-1, 0, api.ErrArg}} {
		if class, err := slab.Class(x.bytes); class != x.class || err != x.err {
			t.Errorf("Class(%d) is %d, error %d", x.bytes, class, err)
		}
	}
	w := of(t, 2)
	w.gives(t, 20, 0, api.OK)
	w.gives(t, 20, 1, api.OK)
	w.gives(t, 1000, 32, api.OK)
	w.gives(t, 100, 0, api.ErrFull)
	w.takes(t, 0, api.OK)
	w.gives(t, 20, 0, api.OK)
	w.takes(t, 32, api.OK)
	w.gives(t, 500, 32, api.OK)
	for _, x := range []struct {
		chunk, class int
		err          api.Errno
	}{{1, 0, api.OK}, {2, 0, api.ErrNone}, {64, 0, api.ErrArg}} {
		if class, err := w.a.Where(x.chunk); class != x.class || err != x.err {
			t.Errorf("Where(%d) is %d, error %d", x.chunk, class, err)
		}
	}
	w.same(t)
}

// P11.1: the edges: 0, each class' size and the numbers beside it, below 0, and the least and greatest numbers.
func TestClassEdges(t *testing.T) {
	for _, x := range []struct {
		bytes, class int
		err          api.Errno
	}{
		{math.MinInt, 0, api.ErrArg}, {math.MinInt32, 0, api.ErrArg}, {-1024, 0, api.ErrArg}, {-32, 0, api.ErrArg}, {-2, 0, api.ErrArg}, {-1, 0, api.ErrArg},
		{0, 0, api.OK}, {1, 0, api.OK}, {31, 0, api.OK}, {32, 0, api.OK},
		{33, 1, api.OK}, {63, 1, api.OK}, {64, 1, api.OK},
		{65, 2, api.OK}, {95, 2, api.OK}, {96, 2, api.OK},
		{97, 3, api.OK}, {143, 3, api.OK}, {144, 3, api.OK},
		{145, 4, api.OK}, {215, 4, api.OK}, {216, 4, api.OK},
		{217, 5, api.OK}, {323, 5, api.OK}, {324, 5, api.OK},
		{325, 6, api.OK}, {485, 6, api.OK}, {486, 6, api.OK},
		{487, 7, api.OK}, {512, 7, api.OK}, {1023, 7, api.OK}, {1024, 7, api.OK},
		{1025, 0, api.ErrLong}, {1026, 0, api.ErrLong}, {2048, 0, api.ErrLong}, {1 << 32, 0, api.ErrLong}, {1<<32 + 1, 0, api.ErrLong}, {math.MaxInt32, 0, api.ErrLong}, {math.MaxInt, 0, api.ErrLong},
	} {
		if class, err := slab.Class(x.bytes); class != x.class || err != x.err {
			t.Errorf("Class(%d) is %d, error %d; asked is %d, error %d", x.bytes, class, err, x.class, x.err)
		}
	}
}

// P11.1: each number of bytes about and within the limits has the least class whose chunks have as many.
func TestClass(t *testing.T) {
	for bytes := -100; bytes <= 2100; bytes++ {
		class, err := slab.Class(bytes)
		if asked, askedErr := classAsked(bytes); class != asked || err != askedErr {
			t.Errorf("Class(%d) is %d, error %d; asked is %d, error %d", bytes, class, err, asked, askedErr)
		}
		if err == api.OK && (slab.Size(class) < bytes || class > 0 && slab.Size(class-1) >= bytes) {
			t.Errorf("Class(%d) is %d, of %d bytes", bytes, class, slab.Size(class))
		}
	}
}

// P11.1: the classes that there are, and those that there are not.
func TestSizeChunks(t *testing.T) {
	for class := range 8 {
		n, m := slab.Size(class), slab.Chunks(class)
		if n != sizes[class] || m != chunks[class] {
			t.Errorf("of class %d Size is %d and Chunks %d", class, n, m)
		}
		if n*m > 1024 || n*(m+1) <= 1024 {
			t.Errorf("%d chunks of %d bytes are not as many as go into a page", m, n)
		}
	}
	for _, class := range noClasses {
		if n, m := slab.Size(class), slab.Chunks(class); n != 0 || m != 0 {
			t.Errorf("of class %d Size is %d and Chunks %d", class, n, m)
		}
	}
}

// The chapter's words: a page has 1024 bytes.
func TestPage(t *testing.T) {
	if slab.Page != 1024 {
		t.Errorf("a page has %d bytes", slab.Page)
	}
}

// P11.2: the numbers of pages that may be, and those that may not.
func TestNew(t *testing.T) {
	for _, pages := range []int{math.MinInt, math.MinInt32, -257, -256, -2, -1, 0, 257, 258, 512, 1 << 32, 1<<32 + 1, math.MaxInt32, math.MaxInt} {
		if a, err := slab.New(pages); a != nil || err != api.ErrArg {
			t.Errorf("New(%d) is %v, error %d", pages, a, err)
		}
	}
	for pages := 1; pages <= 256; pages++ {
		of(t, pages).same(t)
	}
}

// R4: of a nil one an error is ErrNil, ahead of all else, and all else is nothing.
func TestNil(t *testing.T) {
	var a *slab.Arena
	for _, n := range []int{math.MinInt, -1, 0, 1, 7, 8, 32, 1024, 1025, math.MaxInt} {
		if chunk, err := a.Give(n); chunk != 0 || err != api.ErrNil {
			t.Errorf("Give(%d) is %d, error %d", n, chunk, err)
		}
		if err := a.Take(n); err != api.ErrNil {
			t.Errorf("Take(%d) is %d", n, err)
		}
		if class, err := a.Where(n); class != 0 || err != api.ErrNil {
			t.Errorf("Where(%d) is %d, error %d", n, class, err)
		}
		if m, k := a.Used(n), a.Pages(n); m != 0 || k != 0 {
			t.Errorf("Used(%d) is %d, Pages %d", n, m, k)
		}
	}
	if n := a.Free(); n != 0 {
		t.Errorf("Free is %d", n)
	}
	if c := a.Copy(); c != nil {
		t.Errorf("Copy is %v", c)
	}
}
