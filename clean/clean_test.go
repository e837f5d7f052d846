package clean_test

import (
	"math"
	"testing"

	"icehouse/api"
	"icehouse/clean"
)

// four are the chapter's a to d: items of 17 sectors each.
func four(t *testing.T, w *watched, n int) []string {
	t.Helper()
	var keys []string
	for i := range n {
		x := sized(string('a'+rune(i)), 17, uint64(i+1))
		w.puts(t, x)
		keys = append(keys, string(x.Key))
	}
	return keys
}

// The chapter's examples: P15.1, P15.3.
func TestExamples(t *testing.T) {
	w := fresh(t, 4, 24, 8)
	keys := four(t, w, 3)
	w.steps(t, 0, api.Cleaned{Segment: 0, Moved: 1, Left: 0})
	if at := w.p.entry(keys[0]); at != w.p.parts[3].cells[0] {
		t.Error("a is not in segment 3")
	}
	is(t, w.kill(t, keys[1], 9), api.OK)
	w.rooms(t, 2, api.Room{Steps: 1})
	for _, n := range []int{4, -1} {
		_, err := w.room(t, n, 0)
		is(t, err, api.ErrArg)
	}
	w.has(t, keys[0], keys[2])
	_, err := fresh(t, 4, 24, 8).step(t, 0)
	is(t, err, api.ErrNone)
}

// R4, P15.1 to P15.3: a nil store, whatever else is told.
func TestNil(t *testing.T) {
	for _, now := range []uint32{0, 1, math.MaxUint32} {
		if x, err := clean.Step(nil, now); x != (api.Cleaned{}) || err != api.ErrNil {
			t.Errorf("Step of nil is %v, error %d", x, err)
		}
		for _, n := range counts(4) {
			if x, err := clean.Room(nil, n, now); x != (api.Room{}) || err != api.ErrNil {
				t.Errorf("Room(nil, %d) is %v, error %d", n, x, err)
			}
		}
	}
	if x, err := clean.Drop(nil); x != 0 || err != api.ErrNil {
		t.Errorf("Drop of nil is %d, error %d", x, err)
	}
}

// counts are numbers of segments, right ones and wrong ones.
func counts(segments int) []int {
	l := []int{math.MinInt, math.MinInt32, -segments, -2, -1, segments, segments + 1, 2 * segments, 1 << 16, math.MaxInt32, 1 << 32, 1<<32 + 1, math.MaxInt}
	for n := range segments {
		l = append(l, n)
	}
	return l
}

// P15.1 to P15.3: a store without anything: nothing is sealed, and all is free.
func TestNothing(t *testing.T) {
	for _, segments := range []int{4, 5, 16} {
		w := fresh(t, segments, 24, 8)
		ops := w.d.Ops()
		if x, err := clean.Step(w.s, 5); x != (api.Cleaned{}) || err != api.ErrNone {
			t.Errorf("Step is %v, error %d", x, err)
		}
		if x, err := clean.Drop(w.s); x != 0 || err != api.ErrNone {
			t.Errorf("Drop is %d, error %d", x, err)
		}
		for _, n := range counts(segments) {
			want := api.ErrArg
			if n >= 0 && n < segments {
				want = api.OK
			}
			if x, err := clean.Room(w.s, n, 5); x != (api.Room{}) || err != want {
				t.Errorf("Room(%d) is %v, error %d", n, x, err)
			}
		}
		if w.d.Ops() != ops {
			t.Errorf("the disk was asked %d times", w.d.Ops()-ops)
		}
		w.tells(t, 0)
	}
}
