package index_test

import (
	"iter"
	"slices"
	"testing"

	"icehouse/api"
)

// gone goes through what is told, to its end.
func gone(all iter.Seq2[uint32, api.Address]) []entry {
	var l []entry
	for f, a := range all {
		l = append(l, entry{f, a})
	}
	return l
}

// five are entries of three fingers, two of which meet.
func five() []entry {
	return []entry{{1, at(0, 1, 1)}, {1025, at(0, 1, 2)}, {1, at(0, 2, 1)}, {7, at(3, 2, 9)}, {1, at(0, 3, 1)}}
}

// P10.3: All is of the moment at which it was called, whatever is done since.
func TestAllStays(t *testing.T) {
	deeds := []func(t *testing.T, w *watched){
		func(t *testing.T, w *watched) { w.add(t, entry{9, at(9, 9, 9)}, api.OK) },
		func(t *testing.T, w *watched) { w.remove(t, w.p.entries[0], api.OK) },
		func(t *testing.T, w *watched) { w.remove(t, w.p.entries[2], api.OK) },
		func(t *testing.T, w *watched) { w.remove(t, w.p.entries[4], api.OK) },
		func(t *testing.T, w *watched) { w.drop(t, 1, 2) },
		func(t *testing.T, w *watched) {
			w.drop(t, 1, 2)
			w.drop(t, 2, 2)
			w.drop(t, 3, 1)
			for _, e := range slices.Backward(five()) {
				w.add(t, e, api.OK)
			}
		},
	}
	for i, deed := range deeds {
		w := of(t, 6, five()...)
		none, asked := of(t, 6), five()
		all, empty := w.x.All(), none.x.All()
		deed(t, w)
		none.add(t, entry{1, at(1, 1, 1)}, api.OK)
		for range 2 {
			if l := gone(all); !slices.Equal(l, asked) {
				t.Errorf("deed %d: All tells %v; asked is %v", i, l, asked)
			}
			if l := gone(empty); len(l) != 0 {
				t.Errorf("deed %d: All of none tells %v", i, l)
			}
		}
		w.same(t)
	}
}

// P10.3: the index may be changed by who goes through it; what is told does not hang on it.
func TestAllMeanwhile(t *testing.T) {
	deeds := []func(t *testing.T, w *watched, e entry){
		func(t *testing.T, w *watched, e entry) { w.remove(t, e, api.OK) },
		func(t *testing.T, w *watched, e entry) { w.remove(t, w.p.entries[len(w.p.entries)-1], api.OK) },
		func(t *testing.T, w *watched, e entry) {
			w.add(t, entry{e.finger + 50, e.address}, api.OK)
		},
		func(t *testing.T, w *watched, e entry) {
			w.remove(t, e, api.OK)
			w.add(t, e, api.OK)
		},
		func(t *testing.T, w *watched, e entry) {
			if n := w.x.Drop(e.address.Generation); n != w.p.drop(e.address.Generation) {
				t.Errorf("Drop is %d", n)
			}
		},
	}
	for i, deed := range deeds {
		w := of(t, 12, five()...)
		var l []entry
		for f, a := range w.x.All() {
			l = append(l, entry{f, a})
			deed(t, w, entry{f, a})
			w.same(t)
		}
		if !slices.Equal(l, five()) {
			t.Errorf("deed %d: All tells %v", i, l)
		}
	}
}

// R6: it may be left early at each place, and gone through again, within itself too.
func TestAllLeft(t *testing.T) {
	w := of(t, 5, five()...)
	all := w.x.All()
	for n := range len(five()) + 1 {
		var l []entry
		for f, a := range all {
			if len(l) == n {
				break
			}
			l = append(l, entry{f, a})
			if m := gone(all); !slices.Equal(m, five()) {
				t.Fatalf("within itself All tells %v", m)
			}
		}
		if !slices.Equal(l, five()[:min(n, 5)]) {
			t.Errorf("left behind %d, All tells %v", n, l)
		}
		if m := gone(all); !slices.Equal(m, five()) {
			t.Errorf("once more All tells %v", m)
		}
	}
	w.same(t)
}

// R6: behind a no nothing more is told.
func TestAllStops(t *testing.T) {
	w := of(t, 5, five()...)
	n := 0
	w.x.All()(func(uint32, api.Address) bool {
		n++
		return false
	})
	if n != 1 {
		t.Errorf("told %d times", n)
	}
}

// P10.3: the order is that of the additions, behind removals and additions too, not that of places or fingers.
func TestAllOrder(t *testing.T) {
	l := five()
	for first := range l {
		for second := range l {
			w := of(t, 5, l...)
			w.remove(t, l[first], api.OK)
			if first != second {
				w.remove(t, l[second], api.OK)
				w.add(t, l[second], api.OK)
			}
			w.add(t, l[first], api.OK)
			w.same(t)
			w.drop(t, l[first].address.Generation, len(l)-stay(l, l[first].address.Generation))
			w.same(t)
			w.add(t, entry{0, at(0, 0, 0)}, api.OK)
			w.same(t)
		}
	}
}

// stay tells how many have another Generation.
func stay(l []entry, generation uint64) int {
	n := 0
	for _, e := range l {
		if e.address.Generation != generation {
			n++
		}
	}
	return n
}

// R3: what Find answered is new memory: it stays, and the index stays, whatever is done with the one or the other.
func TestFindStays(t *testing.T) {
	w := of(t, 6, five()...)
	asked := []api.Address{at(0, 3, 1), at(0, 2, 1), at(0, 1, 1)}
	l, m := w.x.Find(1), w.x.Find(1)
	if !slices.Equal(l, asked) || !slices.Equal(m, asked) {
		t.Fatalf("Find(1) is %v, %v", l, m)
	}
	for i := range m {
		m[i] = at(-1, 77, -1)
	}
	for i := range m[:cap(m)] {
		m[:cap(m)][i] = at(-1, 77, -1)
	}
	w.same(t)
	w.remove(t, entry{1, at(0, 2, 1)}, api.OK)
	w.add(t, entry{1, at(8, 8, 8)}, api.OK)
	w.drop(t, 1, 2)
	if !slices.Equal(l, asked) {
		t.Errorf("behind it all what was found is %v", l)
	}
	w.same(t)
}
