package clean_test

import (
	"math"
	"strconv"
	"testing"

	"icehouse/api"
)

// tally is how often what happened in long runs.
type tally struct {
	steps, fulls, nones, drops, rooms, twoEach, laps int
}

// run is a long run of puts, kills, flushes and all calls of the package, drawn with that seed, and held against the model; more keys, and greater ones, fill the log more.
func (all *tally) run(t *testing.T, seed uint64, segments, sectors, slots, keys, size, deeds int) {
	t.Helper()
	r := &drawn{seed}
	w := fresh(t, segments, sectors, slots)
	now, seq := uint32(0), uint64(0)
	key := func() string {
		if n := r.below(keys); n >= len(kin) {
			return "key " + strconv.Itoa(n)
		} else {
			return kin[n]
		}
	}
	for range deeds {
		switch n := r.below(40); {
		case n < 22:
			seq++
			x := sized(key(), 1+r.below(size), seq)
			x.Expiry = []uint32{0, 0, 0, now, now + 1, now + 9}[r.below(6)]
			if w.put(t, x) == api.ErrFull {
				all.fulls++
			}
		case n < 25:
			seq++
			w.kill(t, key(), seq)
		case n < 26:
			w.flush(t, seq-uint64(r.below(int(min(seq, 30))+1)))
		case n < 28:
			now += uint32(r.below(3))
		case n < 29:
			is(t, w.s.Sync(), api.OK)
		case n < 30 && r.below(8) == 0:
			w.again(t)
		case n < 34:
			all.step(t, w, now)
		case n < 35:
			if _, err := w.drop(t); err == api.OK {
				all.drops++
			}
		default:
			all.room(t, w, r.below(segments+2)-1, now)
		}
	}
	w.tells(t, now)
	w.tells(t, math.MaxUint32)
	all.laps += int(w.p.generation) / segments
}

// step is a Step. It has room enough wherever a segment is free.
func (all *tally) step(t *testing.T, w *watched, now uint32) {
	t.Helper()
	frees := w.p.frees()
	switch x, err := w.step(t, now); {
	case err == api.OK:
		all.steps++
	case err == api.ErrNone:
		all.nones++
	case err == api.ErrFull && frees == 0:
		all.fulls++
	default:
		t.Fatalf("Step, while %d segments are free, is %v, error %d", frees, x, err)
	}
}

// room is a Room. If both Steps and Drops were done, the Steps were all that may be.
func (all *tally) room(t *testing.T, w *watched, n int, now uint32) {
	t.Helper()
	x, err := w.room(t, n, now)
	if x.Steps > 0 && x.Drops > 0 {
		if x.Steps != 2*len(w.p.parts) {
			t.Fatalf("Room(%d) is %v", n, x)
		}
		all.twoEach++
	}
	if err == api.OK && x != (api.Room{}) {
		all.rooms++
	}
}

// P15.1 to P15.4, P6: long runs of all calls drawn with fixed seeds, against the model, in which the log goes round many times.
func TestRuns(t *testing.T) {
	t.Parallel()
	all := &tally{}
	for seed := range uint64(4) {
		all.run(t, seed, 4, 24, 1024, 8, 11, 900)
		all.run(t, seed+10, 4, 24, 1024, 30, 5, 900)
		all.run(t, seed+20, 4, 24, 6, 12, 17, 900)
		all.run(t, seed+30, 5, 31, 40, 20, 9, 900)
		all.run(t, seed+40, 4, 64, 200, 30, 3, 900)
		all.run(t, seed+50, 16, 24, 100, 40, 17, 900)
	}
	for name, n := range map[string]int{"OK Steps": all.steps, "ErrFull": all.fulls, "ErrNone": all.nones, "Drops": all.drops, "Rooms": all.rooms, "Rooms of all Steps and Drops": all.twoEach, "laps": all.laps} {
		if n < 100 {
			t.Errorf("there are %d %s", n, name)
		}
	}
}

// P15.4: of what lives nothing is lost by Steps and Rooms as long as it surely fits: round and round, the same keys are told, however often the log is cleaned.
func TestNothingLost(t *testing.T) {
	for _, segments := range []int{4, 8} {
		w := fresh(t, segments, 24, 64)
		seq := uint64(0)
		var keys []string
		for i := range 3 * (segments - 3) {
			keys = append(keys, "key "+strconv.Itoa(i))
		}
		for round := range 60 {
			for i, key := range keys {
				if i > 0 && (i+round)%3 > 0 {
					continue
				}
				if x, err := w.room(t, 2, 0); x.Drops > 0 || err != api.OK {
					t.Fatalf("Room is %v, error %d", x, err)
				}
				seq++
				w.puts(t, sized(key, 5, seq))
			}
			if round > 2 {
				w.has(t, append([]string{}, keys...)...)
			}
		}
		if w.p.generation < uint64(5*segments) {
			t.Errorf("the log has gone round to generation %d", w.p.generation)
		}
	}
}
