package index_test

import (
	"math"
	"slices"
	"testing"

	"icehouse/api"
	"icehouse/index"
)

// The chapter's examples: P10.1 to P10.3.
func TestExamples(t *testing.T) {
	a, b := at(0, 1, 1), at(1, 2, 5)
	x, err := index.New(2)
	if err != api.OK {
		t.Fatalf("New(2): error %d", err)
	}
	if e, f, g, h := x.Add(7, a), x.Add(7, a), x.Add(7, b), x.Add(8, a); e != api.OK || f != api.ErrThere || g != api.OK || h != api.ErrFull {
		t.Errorf("Add: %d, %d, %d, %d", e, f, g, h)
	}
	if l, m := x.Find(7), x.Find(8); !slices.Equal(l, []api.Address{b, a}) || len(m) != 0 || x.Len() != 2 || x.Left() != 0 {
		t.Errorf("Find(7) is %v, Find(8) %v, Len %d, Left %d", l, m, x.Len(), x.Left())
	}
	if n := x.Drop(1); n != 1 {
		t.Errorf("Drop(1) is %d", n)
	}
	if l := x.Find(7); !slices.Equal(l, []api.Address{b}) {
		t.Errorf("Find(7) behind Drop(1) is %v", l)
	}
	if e, f := x.Remove(7, a), x.Remove(7, b); e != api.ErrNone || f != api.OK {
		t.Errorf("Remove: %d, %d", e, f)
	}
	for _, slots := range []int{0, 1025} {
		if x, err := index.New(slots); x != nil || err != api.ErrArg {
			t.Errorf("New(%d) is %v, error %d", slots, x, err)
		}
	}
}

// P10.1: the numbers of slots that may be, and those that may not.
func TestNew(t *testing.T) {
	for _, slots := range []int{math.MinInt, -1025, -1024, -2, -1, 0, 1025, 1026, 2048, math.MaxInt32, math.MaxInt} {
		if x, err := index.New(slots); x != nil || err != api.ErrArg {
			t.Errorf("New(%d) is %v, error %d", slots, x, err)
		}
	}
	for slots := 1; slots <= api.MaxSlots; slots++ {
		w := of(t, slots)
		w.asked = []uint32{0, 1, 2, topFinger}
		w.same(t)
	}
}

// P10.1, P10.2, P10.4: an index of each size takes as many entries as it has slots, and no more.
func TestRoom(t *testing.T) {
	for slots := 1; slots <= api.MaxSlots; slots++ {
		x, _ := index.New(slots)
		for i := range slots {
			if err := x.Add(uint32(i), at(0, 1, i)); err != api.OK || x.Len() != i+1 || x.Left() != slots-i-1 {
				t.Fatalf("entry %d of %d: error %d, Len %d, Left %d", i, slots, err, x.Len(), x.Left())
			}
		}
		if err := x.Add(uint32(slots), at(0, 1, slots)); err != api.ErrFull {
			t.Fatalf("one more than %d: error %d", slots, err)
		}
		for i := range slots + 1 {
			if l := x.Find(uint32(i)); len(l) > 1 || (len(l) == 1) != (i < slots) || len(l) == 1 && l[0] != at(0, 1, i) {
				t.Fatalf("Find(%d) of %d slots is %v", i, slots, l)
			}
		}
	}
}

// R4: of a nil one an error is ErrNil, all else is nothing.
func TestNil(t *testing.T) {
	var x *index.Index
	for _, f := range []uint32{0, 1, topFinger} {
		for _, a := range []api.Address{{}, at(1, 2, 3)} {
			if e, g := x.Add(f, a), x.Remove(f, a); e != api.ErrNil || g != api.ErrNil {
				t.Errorf("Add is %d, Remove %d", e, g)
			}
		}
		if l := x.Find(f); len(l) != 0 {
			t.Errorf("Find is %v", l)
		}
		if n := x.Drop(uint64(f)); n != 0 {
			t.Errorf("Drop is %d", n)
		}
	}
	if x.Len() != 0 || x.Left() != 0 {
		t.Errorf("Len is %d, Left %d", x.Len(), x.Left())
	}
	all := x.All()
	for range 2 {
		for f, a := range all {
			t.Errorf("All tells %d, %v", f, a)
		}
	}
}

// P10.2: an index of one slot.
func TestOneSlot(t *testing.T) {
	w := of(t, 1)
	e, f := entry{5, at(1, 1, 1)}, entry{5, at(1, 2, 1)}
	for range 3 {
		w.remove(t, e, api.ErrNone)
		w.add(t, e, api.OK)
		w.add(t, e, api.ErrThere)
		w.add(t, f, api.ErrFull)
		w.remove(t, f, api.ErrNone)
		w.same(t)
		w.drop(t, 2, 0)
		w.drop(t, 1, 1)
		w.same(t)
		w.add(t, f, api.OK)
		w.add(t, e, api.ErrFull)
		w.same(t)
		w.remove(t, f, api.OK)
		w.remove(t, f, api.ErrNone)
		w.same(t)
	}
}

// P10.2: which error goes ahead of which: what is there already is told of a full index, too; what is not there can be removed from none.
func TestFull(t *testing.T) {
	for _, slots := range []int{1, 2, 3, 7, 1023, 1024} {
		var l []entry
		for i := range slots {
			l = append(l, entry{uint32(i % 3), at(i, 1, -i)})
		}
		w := of(t, slots, l...)
		w.same(t)
		for _, e := range l {
			w.add(t, e, api.ErrThere)
			w.add(t, entry{e.finger + 3, e.address}, api.ErrFull)
			w.add(t, entry{e.finger, at(slots, 1, 1)}, api.ErrFull)
		}
		w.remove(t, entry{0, at(slots, 1, 1)}, api.ErrNone)
		w.same(t)
		w.remove(t, l[slots/2], api.OK)
		w.add(t, entry{0, at(slots, 1, 1)}, api.OK)
		w.add(t, l[slots/2], api.ErrFull)
		w.same(t)
	}
}

// edges are fingers and addresses of the least and greatest numbers, and such as are only a field away from each other.
func edges() []entry {
	var l []entry
	for _, f := range []uint32{0, 1, 1 << 16, 1 << 31, topFinger} {
		for _, s := range []int{math.MinInt, -1, 0, math.MaxInt} {
			for _, g := range []uint64{0, 1, 1 << 63, topGeneration} {
				for _, n := range []int{math.MinInt, -1, 0, math.MaxInt} {
					l = append(l, entry{f, at(s, g, n)})
				}
			}
		}
	}
	return l
}

// P10.2: any finger and any address is taken, and each stands for itself.
func TestEdges(t *testing.T) {
	l := edges()
	w := of(t, api.MaxSlots, l...)
	w.same(t)
	for i, e := range l {
		w.add(t, e, api.ErrThere)
		w.remove(t, e, api.OK)
		w.remove(t, e, api.ErrNone)
		w.counts(t)
		if i%40 == 0 {
			w.same(t)
		}
	}
	w.same(t)
}

// P10.2: an entry of an edge alone is found by its own finger, and removed by its own address alone.
func TestEdgesAlone(t *testing.T) {
	l := edges()
	for i, e := range l {
		x, _ := index.New(1)
		x.Add(e.finger, e.address)
		for j, f := range l {
			if i == j {
				continue
			}
			if err := x.Remove(f.finger, f.address); err != api.ErrNone {
				t.Fatalf("Remove(%v) of %v is %d", f, e, err)
			}
			if err := x.Add(f.finger, f.address); err != api.ErrFull {
				t.Fatalf("Add(%v) beside %v is %d", f, e, err)
			}
			if n := len(x.Find(f.finger)); (n == 1) != (e.finger == f.finger) {
				t.Fatalf("Find(%d) of %v tells %d", f.finger, e, n)
			}
		}
		if err := x.Remove(e.finger, e.address); err != api.OK || x.Len() != 0 {
			t.Fatalf("Remove(%v) is %d", e, err)
		}
	}
}

// P10.2: removal asks for all of the entry: one with a single field unlike is another.
func TestSingleField(t *testing.T) {
	e := entry{7, at(3, 5, 9)}
	others := []entry{
		{6, at(3, 5, 9)}, {8, at(3, 5, 9)}, {7 + 1024, at(3, 5, 9)}, {7 + 1<<31, at(3, 5, 9)},
		{7, at(2, 5, 9)}, {7, at(-3, 5, 9)}, {7, at(3, 4, 9)}, {7, at(3, 5+1<<63, 9)}, {7, at(3, 5, 8)}, {7, at(3, 5, -9)},
		{7, at(9, 5, 3)}, {7, at(5, 3, 9)}, {5, at(3, 7, 9)}, {},
	}
	for _, o := range others {
		w := of(t, 3, e)
		w.remove(t, o, api.ErrNone)
		w.same(t)
		w.add(t, o, api.OK)
		w.same(t)
		w.remove(t, o, api.OK)
		w.same(t)
		w.add(t, o, api.OK)
		w.remove(t, e, api.OK)
		w.remove(t, e, api.ErrNone)
		w.same(t)
	}
}

// P10.4: what is done with one index is nothing to another.
func TestTwo(t *testing.T) {
	e, f := entry{1, at(1, 1, 1)}, entry{1, at(2, 1, 1)}
	v, w := of(t, 2, e), of(t, 2)
	w.same(t)
	w.remove(t, e, api.ErrNone)
	w.add(t, f, api.OK)
	v.same(t)
	w.add(t, e, api.OK)
	v.drop(t, 1, 1)
	w.same(t)
	v.add(t, f, api.OK)
	v.same(t)
	w.remove(t, f, api.OK)
	v.same(t)
	w.same(t)
}
