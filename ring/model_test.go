package ring_test

import (
	"math"

	"icehouse/api"
)

// top is the greatest Generation there is.
const top uint64 = math.MaxUint64

// room is what stands behind the end of each list that is handed in.
var room = api.Seg{State: 7, Generation: 77, Used: 777}

// free, open and sealed are segments.
func free() api.Seg { return api.Seg{} }

func open(generation uint64, used int) api.Seg {
	return api.Seg{State: 1, Generation: generation, Used: used}
}

func sealed(generation uint64, used int) api.Seg {
	return api.Seg{State: 2, Generation: generation, Used: used}
}

// ringOf is a ring, behind whose list there is room.
func ringOf(sectors int, segs ...api.Seg) api.Ring {
	list := make([]api.Seg, 0, len(segs)+2)
	list = append(list, segs...)
	list[:len(segs)+1][len(segs)] = room
	return api.Ring{Sectors: sectors, Segs: list}
}

// copied is the same ring in new memory.
func copied(r api.Ring) api.Ring {
	return ringOf(r.Sectors, r.Segs...)
}

// with is the ring in which segment i is s.
func with(r api.Ring, i int, s api.Seg) api.Ring {
	c := copied(r)
	c.Segs[i] = s
	return c
}

// alike tells whether two rings are the same, as the words say it.
func alike(a, b api.Ring) bool {
	if len(a.Segs) != len(b.Segs) {
		return false
	}
	for i := range a.Segs {
		x, y := a.Segs[i], b.Segs[i]
		if x.State != y.State || x.Generation != y.Generation || x.Used != y.Used {
			return false
		}
	}
	return a.Sectors == b.Sectors
}

// mayBe tells whether a ring may be, sentence by sentence of the chapter.
func mayBe(r api.Ring) bool {
	if len(r.Segs) < 4 || len(r.Segs) > 16 || r.Sectors < 24 || r.Sectors > 64 {
		return false
	}
	opens := 0
	for i, s := range r.Segs {
		if s.State < 0 || s.State > 2 {
			return false
		}
		if s.State == 0 && (s.Generation != 0 || s.Used != 0) {
			return false
		}
		if s.State != 0 && (s.Generation == 0 || s.Used < 1 || s.Used > r.Sectors) {
			return false
		}
		if s.State == 1 {
			opens++
		}
		for k, x := range r.Segs {
			if i == k || s.State == 0 || x.State == 0 {
				continue
			}
			if s.Generation == x.Generation || s.State == 1 && s.Generation < x.Generation {
				return false
			}
		}
	}
	return opens <= 1
}

// facts is what is to be told of a ring that may be; -1 is a number that there is not.
type facts struct {
	opened, latest, next, oldest int
	greatest                     uint64
	frees, left                  int
	order                        []int
}

// factsOf looks each of them up by itself.
func factsOf(r api.Ring) facts {
	f := facts{opened: -1, latest: -1, next: -1, oldest: -1}
	for i, s := range r.Segs {
		if s.State == 0 {
			f.frees++
			continue
		}
		if s.Generation > f.greatest {
			f.latest, f.greatest = i, s.Generation
		}
		if s.State == 1 {
			f.opened, f.left = i, r.Sectors-s.Used
		}
		if s.State == 2 && (f.oldest < 0 || s.Generation < r.Segs[f.oldest].Generation) {
			f.oldest = i
		}
	}
	f.next = nextOf(r, f.latest)
	f.order = orderOf(r)
	return f
}

// nextOf is the first free one behind the latest: first those of greater numbers, then those from 0 on.
func nextOf(r api.Ring, latest int) int {
	for i, s := range r.Segs {
		if s.State == 0 && i > latest {
			return i
		}
	}
	for i, s := range r.Segs {
		if s.State == 0 {
			return i
		}
	}
	return -1
}

// orderOf is the numbers of those that are not free: each stands behind as many as have a lesser Generation.
func orderOf(r api.Ring) []int {
	var list []int
	for _, s := range r.Segs {
		if s.State != 0 {
			list = append(list, -1)
		}
	}
	for i, s := range r.Segs {
		if s.State == 0 {
			continue
		}
		place := 0
		for _, x := range r.Segs {
			if x.State != 0 && x.Generation < s.Generation {
				place++
			}
		}
		list[place] = i
	}
	return list
}

// openAsked is what Open is to answer.
func openAsked(r api.Ring, generation uint64) (api.Ring, int, api.Errno) {
	f := factsOf(r)
	if !mayBe(r) {
		return api.Ring{}, 0, 180
	}
	if f.opened >= 0 {
		return api.Ring{}, 0, 181
	}
	if generation == 0 || generation <= f.greatest {
		return api.Ring{}, 0, 2
	}
	if f.next < 0 {
		return api.Ring{}, 0, 6
	}
	return with(r, f.next, open(generation, 1)), f.next, 0
}

// useAsked is what Use is to answer.
func useAsked(r api.Ring, n int) (api.Ring, api.Errno) {
	f := factsOf(r)
	if !mayBe(r) {
		return api.Ring{}, 180
	}
	if f.opened < 0 {
		return api.Ring{}, 181
	}
	if n < 0 {
		return api.Ring{}, 2
	}
	if n > f.left {
		return api.Ring{}, 6
	}
	s := r.Segs[f.opened]
	return with(r, f.opened, open(s.Generation, s.Used+n)), 0
}

// sealAsked is what Seal is to answer.
func sealAsked(r api.Ring, _ int) (api.Ring, api.Errno) {
	f := factsOf(r)
	if !mayBe(r) {
		return api.Ring{}, 180
	}
	if f.opened < 0 {
		return api.Ring{}, 181
	}
	s := r.Segs[f.opened]
	return with(r, f.opened, sealed(s.Generation, s.Used)), 0
}

// freeAsked is what Free is to answer.
func freeAsked(r api.Ring, i int) (api.Ring, api.Errno) {
	if !mayBe(r) {
		return api.Ring{}, 180
	}
	if i < 0 || i >= len(r.Segs) {
		return api.Ring{}, 2
	}
	if r.Segs[i].State != 2 {
		return api.Ring{}, 181
	}
	return with(r, i, free()), 0
}
