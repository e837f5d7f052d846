package clean_test

import (
	"slices"
	"strconv"
	"testing"

	"icehouse/api"
	"icehouse/clean"
)

// P15.3: of a store with each number of free segments, Room of each number: below 0, of as many as are free, the numbers beside it, of one less than there are segments, as many, one more.
func TestRoomCounts(t *testing.T) {
	for _, segments := range []int{4, 6, 16} {
		for puts := range segments + 1 {
			for _, n := range counts(segments) {
				w := fresh(t, segments, 24, 32)
				four(t, w, puts)
				frees := segments - puts
				if ops := w.d.Ops(); n <= frees || n >= segments {
					if clean.Room(w.s, n, 0); w.d.Ops() != ops {
						t.Errorf("Room(%d), while %d are free, asks the disk", n, frees)
					}
				}
				x, err := w.room(t, n, 0)
				switch {
				case n < 0 || n >= segments:
					is(t, err, api.ErrArg)
				case n <= frees:
					if x != (api.Room{}) || err != api.OK {
						t.Errorf("Room(%d), while %d are free, is %v, error %d", n, frees, x, err)
					}
				default:
					if x.Drops != n-frees || err != api.OK || w.p.frees() != n {
						t.Errorf("Room(%d), while %d are free, is %v, error %d; %d are free then", n, frees, x, err, w.p.frees())
					}
				}
			}
		}
	}
}

// P15.3: where Steps are enough there are no Drops, and no more Steps than are needed.
func TestRoomSteps(t *testing.T) {
	for n := range 4 {
		w := fresh(t, 4, 24, 16)
		w.puts(t, sized("a", 2, 1), sized("x", 17, 2)) // segment 0
		w.puts(t, sized("b", 5, 3), sized("x", 17, 4)) // 1
		w.puts(t, sized("x", 17, 5), sized("c", 6, 6)) // 2
		w.puts(t, sized("d", 8, 7))                    // 3
		is(t, w.kill(t, padded("x"), 8), api.OK)
		if w.p.frees() != 0 || w.p.opened() != 3 {
			t.Fatal("the log is laid otherwise")
		}
		want := []api.Room{{}, {Steps: 1, Moved: 1}, {Steps: 2, Moved: 2}, {Steps: 4, Moved: 6}}[n]
		w.rooms(t, n, want)
		w.rooms(t, n, api.Room{})
		w.has(t, "a", "b", "c", "d")
	}
}

// P15.3: what has expired at that moment needs no room.
func TestRoomExpiry(t *testing.T) {
	for _, now := range []uint32{49, 50, 51} {
		w := fresh(t, 4, 24, 16)
		for i, name := range []string{"a", "b", "c", "d"} {
			w.puts(t, until(sized(name, 17, uint64(i+1)), 50))
		}
		x, err := w.room(t, 2, now)
		want := api.Room{Steps: 2}
		if now < 50 {
			want = api.Room{Drops: 2}
		}
		if x != want || err != api.OK {
			t.Errorf("at %d Room is %v, error %d; asked is %v", now, x, err, want)
		}
	}
}

// P15.3: at the first ErrFull Steps end: from then on there are Drops alone, though a Step would have room again. What was moved ahead of ErrFull counts among what was moved in all.
func TestRoomFull(t *testing.T) {
	for small := range 6 {
		for n := 1; n < 4; n++ {
			w := fresh(t, 4, 24, 32)
			var keys []string
			for i := range small {
				keys = append(keys, "small "+strconv.Itoa(i))
				w.puts(t, sized(keys[i], 1, uint64(i+1)))
			}
			for i, name := range []string{"a", "b", "c", "d"} {
				w.puts(t, sized(name, 17, uint64(i+10)))
				keys = append(keys, padded(name))
			}
			w.rooms(t, n, api.Room{Drops: n, Moved: small})
			w.has(t, slices.Delete(slices.Clone(keys), small, small+n)...)
		}
	}
}

// P15.3: Steps that win nothing end at two for each segment; then there are Drops.
func TestRoomTwoEach(t *testing.T) {
	for _, segments := range []int{4, 5, 16} {
		for n := 2; n < segments; n++ {
			w := fresh(t, segments, 24, 32)
			keys := four(t, w, segments-1)
			w.rooms(t, n, api.Room{Steps: 2 * segments, Drops: n - 1, Moved: 2 * segments})
			// Each was moved as often; those that were moved longest ago are dropped.
			if w.s.Len() != segments-n {
				t.Errorf("Len is %d", w.s.Len())
			}
			first := 2 * segments % (segments - 1)
			var left []string
			for i := n - 1; i < segments-1; i++ {
				left = append(left, keys[(first+i)%(segments-1)])
			}
			w.has(t, left...)
		}
	}
}

// P15.3: all are sealed, as behind a crash: what lives has no room; what doesn't needs none.
func TestRoomAllSealed(t *testing.T) {
	for n := range 4 {
		w := fresh(t, 4, 24, 32)
		keys := four(t, w, 4)
		w.again(t)
		w.rooms(t, n, api.Room{Drops: n})
		w.has(t, slices.Clone(keys[n:])...)

		w = fresh(t, 4, 24, 32)
		keys = four(t, w, 4)
		is(t, w.s.Sync(), api.OK)
		w.flush(t, 4)
		w.again(t)
		w.rooms(t, n, api.Room{Steps: n})
		w.has(t)
	}
}

// P15.3, P6: whatever was put, Room of each number ends with as many free, and puts go on for ever.
func TestRoomForEver(t *testing.T) {
	for n := 1; n < 4; n++ {
		w := fresh(t, 4, 24, 64)
		for i := range 150 {
			if w.p.frees() < n {
				if _, err := w.room(t, n, 0); err != api.OK {
					t.Fatalf("Room is error %d", err)
				}
			}
			w.puts(t, sized("key "+strconv.Itoa(i%9), 1+i*7%11, uint64(i+1)))
		}
		if w.p.generation < 20 {
			t.Errorf("the log has gone round to generation %d", w.p.generation)
		}
	}
}
