package recover_test

import (
	"math"
	"testing"

	"icehouse/api"
)

// plan says how a long run goes.
type plan struct {
	segments, sectors, slots int
	keys, size               int  // how many keys there are, of how many sectors items are, at most
	falls, fewer             bool // whether sequences fall, too; whether there are fewer slots, too, behind a crash
}

// tally is how often what happened in long runs.
type tally struct {
	crashes, cut, found, left, tombs, outdone, full, laps int
}

// run is a long run of all calls of a store and of what cleans it, of crashes and of recoveries, drawn with that seed, and held against the model.
func (all *tally) run(t *testing.T, seed uint64, p plan, deeds int) {
	t.Helper()
	r := &drawn{seed}
	w := fresh(t, p.segments, p.sectors, p.slots)
	now, seq := uint32(0), uint64(0)
	for range deeds {
		switch n := r.below(50); {
		case n < 3:
			all.crash(t, w, r, p)
		case n < 6:
			now += uint32(r.below(3))
		default:
			seq++
			all.deed(t, w, r, p, seq, now)
		}
		w.tells(t, now)
	}
	w.tells(t, math.MaxUint32)
	all.laps += int(w.p.generation) / p.segments
}

// key draws a key, some of one finger.
func (p plan) key(r *drawn) string {
	n := r.below(p.keys)
	if n < len(kin) {
		return kin[n]
	}
	return "key " + number(uint64(n))
}

// deed is one call of the store, or of what cleans it.
func (all *tally) deed(t *testing.T, w *watched, r *drawn, p plan, seq uint64, now uint32) {
	t.Helper()
	if p.falls {
		seq -= uint64(r.below(int(min(seq, 6))))
	}
	switch n := r.below(40); {
	case n < 20:
		x := sized(p.key(r), 1+r.below(p.size), seq)
		x.Expiry = []uint32{0, 0, 0, now, now + 1, now + 9}[r.below(6)]
		if w.put(t, x) == api.ErrFull {
			all.full++
			w.room(t, 1+r.below(2), now)
		}
	case n < 24:
		w.kill(t, p.key(r), seq)
	case n < 25 && r.below(3) == 0:
		w.flush(t, seq-uint64(r.below(int(min(seq, 30)))))
	case n < 28:
		w.sync(t)
	case n < 31:
		if at := r.below(p.segments); len(w.p.parts[at].cells) > 0 {
			w.move(t, at, r.below(len(w.p.parts[at].cells)))
		}
	case n < 33:
		at := r.below(p.segments+2) - 1
		if r.below(2) > 0 {
			at = max(0, w.p.oldest())
		}
		w.retire(t, at)
	case n < 37:
		w.step(t, now)
	default:
		w.room(t, r.below(p.segments), now)
	}
}

// crash is one of which drawn ones of what is pending live on, or all, or none; Open behind Open tells the same.
func (all *tally) crash(t *testing.T, w *watched, r *drawn, p plan) {
	t.Helper()
	keep := make([]bool, len(w.p.pending)+r.below(2))
	most := []int{1, 2, 8, 1 << 20}[r.below(4)]
	for i := range keep {
		keep[i] = r.below(most) > 0
	}
	all.cut += len(w.p.pending)
	if p.fewer {
		w.p.slots = 1 + r.below(p.slots)
	}
	report := w.crash(t, keep)
	for range r.below(2) + 1 {
		s, again := open(t, w.d, w.p.slots)
		if again != report {
			t.Fatalf("Open behind Open is %v; it was %v", again, report)
		}
		w.s = s
	}
	all.crashes++
	all.found += report.Items
	all.left += report.Left
	all.tombs += report.Tombs
	all.outdone += report.Gone
}

// P16.1 to P16.4, P6: long runs of all calls of a store and of what cleans it, with crashes and recoveries, drawn with fixed seeds, against a plain model, in which the log goes round many times.
func TestRuns(t *testing.T) {
	plans := []plan{
		{4, 24, 64, 8, 5, false, false},
		{4, 24, 64, 8, 17, false, false},
		{4, 24, 3, 12, 3, false, true},
		{5, 31, 16, 20, 4, false, true},
		{4, 24, 64, 6, 4, true, false},
		{6, 24, 9, 10, 6, true, true},
		{8, 64, 1024, 60, 3, false, false},
		{16, 24, 20, 40, 17, false, true},
	}
	all := make([]tally, len(plans))
	t.Run("each", func(t *testing.T) {
		for i, p := range plans {
			t.Run(number(uint64(i)), func(t *testing.T) {
				t.Parallel()
				for seed := range uint64(5) {
					all[i].run(t, 10*seed+uint64(i), p, 1200)
				}
			})
		}
	})
	var sum tally
	for i, x := range all {
		if x.crashes < 200 || x.laps < 30 {
			t.Errorf("plan %d: %d crashes, %d laps", i, x.crashes, x.laps)
		}
		sum.cut += x.cut
		sum.found += x.found
		sum.left += x.left
		sum.tombs += x.tombs
		sum.outdone += x.outdone
		sum.full += x.full
	}
	if sum.cut < 5000 || sum.found < 5000 || sum.left < 500 || sum.tombs < 1000 || sum.outdone < 5000 || sum.full < 200 {
		t.Errorf("there are %v", sum)
	}
}
