package clean_test

import (
	"slices"
	"strconv"
	"testing"

	"icehouse/api"
)

// P15.2: with none, one, and as many sealed segments as there can be beside an open one: the oldest goes, with what lives in it, and nothing else does.
func TestDrop(t *testing.T) {
	for _, segments := range []int{4, 7, 16} {
		for puts := range segments + 1 {
			w := fresh(t, segments, 24, 32)
			keys := four(t, w, puts)
			for i := range max(0, puts-1) {
				at, err := w.drop(t)
				if at != i || err != api.OK {
					t.Fatalf("Drop is %d, error %d; asked is %d", at, err, i)
				}
				w.has(t, slices.Clone(keys[i+1:])...)
				if w.s.May([]byte(keys[i])) {
					t.Errorf("May tells of %q", keys[i])
				}
			}
			_, err := w.drop(t)
			is(t, err, api.ErrNone)
			w.has(t, slices.Clone(keys[max(0, puts-1):])...)
		}
	}
}

// P15.2: all are sealed, as behind a crash: each of them can be dropped, till all are free.
func TestDropAll(t *testing.T) {
	w := fresh(t, 4, 24, 16)
	keys := four(t, w, 4)
	w.again(t)
	for i := range 4 {
		if at, err := w.drop(t); at != i || err != api.OK {
			t.Fatalf("Drop is %d, error %d", at, err)
		}
		w.has(t, slices.Clone(keys[i+1:])...)
	}
	_, err := w.drop(t)
	is(t, err, api.ErrNone)
	// The next generation is one that was not given ahead of it.
	w.puts(t, item("new", 5, 9))
	w.has(t, "new")
	if g := w.p.parts[0].generation; g != 5 {
		t.Errorf("the generation is %d", g)
	}
}

// P15.2: of a segment with items that live, were outdone, killed and flushed, and a tombstone: only what lives there goes.
func TestDropSome(t *testing.T) {
	w := fresh(t, 4, 24, 16)
	w.puts(t, item("flushed", 5, 1))
	w.flush(t, 1)
	w.puts(t, item("outdone", 5, 2), item("killed", 5, 3), until(item("expired", 5, 4), 1), item("lives", 5, 5), item(kin[0], 5, 6), item(kin[1], 5, 7))
	is(t, w.kill(t, "killed", 8), api.OK)
	w.puts(t, sized("x", 17, 9), item("outdone", 6, 10), item(kin[1], 5, 11))
	if at, err := w.drop(t); at != 0 || err != api.OK {
		t.Fatalf("Drop is %d, error %d", at, err)
	}
	w.has(t, "outdone", padded("x"), kin[1])
	if w.s.Len() != 3 {
		t.Errorf("Len is %d", w.s.Len())
	}
}

// P15.2: what was dropped does not come back, behind a crash neither; what was moved ahead of that stays.
func TestDropCrash(t *testing.T) {
	w := fresh(t, 4, 24, 16)
	keys := four(t, w, 3)
	w.steps(t, 0, api.Cleaned{Segment: 0, Moved: 1})
	if at, err := w.drop(t); at != 1 || err != api.OK {
		t.Fatalf("Drop is %d, error %d", at, err)
	}
	if len(w.d.Pending()) > 0 {
		t.Error("something is not safe")
	}
	w.again(t)
	w.has(t, keys[0], keys[2])
}

// P15.2: round and round: with each Drop the oldest is told, and there is room for as much again.
func TestDropRound(t *testing.T) {
	w := fresh(t, 5, 24, 3)
	for i := range 40 {
		w.puts(t, sized("key "+strconv.Itoa(i), 17, uint64(i+1)))
		if i < 2 {
			continue
		}
		if at, err := w.drop(t); at != (i-2)%5 || err != api.OK {
			t.Fatalf("Drop is %d, error %d; asked is %d", at, err, (i-2)%5)
		}
		w.has(t, padded("key "+strconv.Itoa(i-1)), padded("key "+strconv.Itoa(i)))
	}
}
