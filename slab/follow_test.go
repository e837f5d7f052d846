package slab_test

import (
	"testing"

	"icehouse/api"
)

// followed is a watched arena, and what follows from all that was done with it: which chunks are given, told by the answers alone.
type followed struct {
	watched
	given map[int]int // of each chunk how many bytes it has
}

func follow(t *testing.T, pages int) followed {
	return followed{of(t, pages), map[int]int{}}
}

func (f followed) copied() followed {
	given := map[int]int{}
	for chunk, size := range f.given {
		given[chunk] = size
	}
	return followed{f.watched.copied(), given}
}

// give gives, and holds the answer against what follows.
func (f followed) give(t *testing.T, bytes int) (int, api.Errno) {
	t.Helper()
	chunk, err := f.watched.give(t, bytes)
	class, _ := classAsked(bytes)
	switch err {
	case api.OK:
		if f.given[chunk] != 0 {
			t.Fatalf("Give(%d) is %d, which is given", bytes, chunk)
		}
		f.given[chunk] = sizes[class]
	case api.ErrFull:
		if f.a.Free() != 0 || f.a.Used(class) != f.a.Pages(class)*chunks[class] {
			t.Fatalf("Give(%d) is refused; %d pages are free, %d chunks of %d pages are given", bytes, f.a.Free(), f.a.Used(class), f.a.Pages(class))
		}
	}
	f.fits(t)
	return chunk, err
}

func (f followed) take(t *testing.T, chunk int) api.Errno {
	t.Helper()
	err := f.watched.take(t, chunk)
	if (err == api.OK) != (f.given[chunk] != 0) {
		t.Fatalf("Take(%d) is %d; it has %d bytes", chunk, err, f.given[chunk])
	}
	delete(f.given, chunk)
	f.fits(t)
	return err
}

// fits tells whether chunks have at most the pages' bytes, and whether all pages are free if none is given.
func (f followed) fits(t *testing.T) {
	t.Helper()
	bytes, told := 0, 0
	for _, size := range f.given {
		bytes += size
	}
	for class, size := range sizes {
		told += f.a.Used(class) * size
	}
	if bytes != told || bytes > f.p.pages()*1024 {
		t.Fatalf("%d bytes are given, %d are told, %d pages there are", bytes, told, f.p.pages())
	}
	if (bytes == 0) != (f.a.Free() == f.p.pages()) {
		t.Fatalf("%d bytes are given, %d of %d pages are free", bytes, f.a.Free(), f.p.pages())
	}
}

// pagesFit tells whether the chunks of each page have at most its bytes.
func (f followed) pagesFit(t *testing.T) {
	t.Helper()
	bytes := make([]int, f.p.pages())
	for chunk, size := range f.given {
		bytes[chunk/32] += size
	}
	for page, n := range bytes {
		if n > 1024 {
			t.Fatalf("page %d has chunks of %d bytes", page, n)
		}
	}
}

// empty takes all back, by a rule, and asks whether all pages are free.
func (f followed) empty(t *testing.T, d *numbers) {
	t.Helper()
	for left := f.p.given(); len(left) > 0; {
		i := d.below(len(left))
		f.take(t, left[i])
		left[i] = left[len(left)-1]
		left = left[:len(left)-1]
	}
	if n := f.a.Free(); n != f.p.pages() || len(f.given) != 0 {
		t.Fatalf("behind it all %d of %d pages are free", n, f.p.pages())
	}
	f.same(t)
}

// P11.2 to P11.5: all sequences of five deeds with arenas of one to three pages: chunks of three classes are given, and chunks of three pages taken.
func TestEachSequence(t *testing.T) {
	gives, takes := []int{216, 486, 1024}, []int{0, 1, 32, 33, 64}
	deeds, length := len(gives)+len(takes), 5
	all := 1
	for range length {
		all *= deeds
	}
	for pages := 1; pages <= 3; pages++ {
		for number := range all {
			f := follow(t, pages)
			for range length {
				if deed := number % deeds; deed < len(gives) {
					f.give(t, gives[deed])
				} else {
					f.take(t, takes[deed-len(gives)])
				}
				number /= deeds
			}
			f.counts(t)
			for chunk := range 32*pages + 1 {
				f.where(t, chunk)
			}
		}
	}
}

// run is a long run: deeds with three arenas, of which one becomes the copy of another now and then.
type run struct {
	pages, deeds int
	bytes        []int // what is asked of Give
	phase        int   // for so many deeds more are given than taken, then more are taken
	seed         uint64
}

// P11.2 to P11.5: long runs of Give, Take and Copy, in which chunks come and go many times as often as there are pages.
func TestLongRuns(t *testing.T) {
	every := append([]int{-1, 0, 1, 1025}, sizes...)
	for _, r := range []run{
		{1, 6000, []int{486, 324, 1024}, 12, 1},
		{1, 6000, sizes, 90, 2},
		{2, 8000, []int{1, 33, 400}, 80, 3},
		{3, 8000, every, 50, 4},
		{8, 12000, sizes[3:], 60, 5},
		{16, 16000, every, 300, 6},
		{31, 24000, sizes[:3], 3000, 7},
		{64, 20000, every, 2000, 8},
		{256, 20000, sizes[5:], 1500, 9},
		{256, 36000, every, 9000, 10},
	} {
		r.walk(t)
	}
}

// walk does all of the run's deeds.
func (r run) walk(t *testing.T) {
	t.Helper()
	d := &numbers{r.seed}
	f := []followed{follow(t, r.pages), follow(t, r.pages), follow(t, r.pages)}
	came, went, refused := 0, 0, 0
	for i := range r.deeds {
		at, giving := d.below(len(f)), d.below(10) < 8
		if i/r.phase%2 == 1 {
			giving = !giving
		}
		switch {
		case d.below(150) == 0:
			f[at] = f[d.below(len(f))].copied()
		case giving:
			switch _, err := f[at].give(t, r.bytes[d.below(len(r.bytes))]); err {
			case api.OK:
				came++
			case api.ErrFull:
				refused++
			}
		case f[at].take(t, r.taken(f[at], d)) == api.OK:
			went++
		}
		if i%max(1, r.pages*8) == 0 {
			for _, x := range f {
				x.same(t)
				x.pagesFit(t)
			}
		}
	}
	for _, x := range f {
		x.same(t)
		x.empty(t, d)
	}
	if came < 10*r.pages || went < 10*r.pages || refused == 0 {
		t.Errorf("run %v: only %d came, %d went, %d were refused", r, came, went, refused)
	}
}

// taken is a chunk's number: mostly of one that is given, else of any.
func (r run) taken(f followed, d *numbers) int {
	if l := f.p.given(); len(l) > 0 && d.below(8) > 0 {
		return l[d.below(len(l))]
	}
	return d.below(32*r.pages+40) - 20
}

// P11.5: laps: the arena is filled by each class, emptied, and filled by the next one; there is all room each time.
func TestLaps(t *testing.T) {
	for _, pages := range []int{1, 2, 5, 40} {
		f, d := follow(t, pages), &numbers{uint64(pages)}
		for lap := range 3 {
			for step := range sizes {
				class := (step*(2*lap+1) + lap) % len(sizes)
				for range pages * chunks[class] {
					if _, err := f.give(t, sizes[class]); err != api.OK {
						t.Fatalf("lap %d: Give(%d) is refused: %d", lap, sizes[class], err)
					}
				}
				f.watched.gives(t, sizes[class], 0, api.ErrFull)
				f.same(t)
				f.pagesFit(t)
				f.empty(t, d)
			}
		}
	}
}
