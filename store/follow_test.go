package store_test

import (
	"math"
	"strconv"
	"testing"

	"icehouse/api"
	"icehouse/ring"
)

// truth is what P14.7 asks for, by the answers alone: what was put of each key last, and not killed, flushed or retired; and in which generation it stands.
type truth struct {
	of      map[string]api.Item
	in      map[string]uint64
	flushed uint64
}

// stands notes that the key's item stands in the segment that is open.
func (x *truth) stands(w *watched, y api.Item) {
	y.Dirty = false
	x.of[string(y.Key)] = y
	r := w.s.Log().Ring()
	i, _ := ring.Opened(r)
	x.in[string(y.Key)] = r.Segs[i].Generation
}

// gone notes that all keys are gone for which that holds.
func (x *truth) gone(of func(key string) bool) {
	for key := range x.of {
		if of(key) {
			delete(x.of, key)
			delete(x.in, key)
		}
	}
}

// tells holds what is told of the key at now against what is true.
func (x *truth) tells(t *testing.T, w *watched, key string, now uint32) {
	t.Helper()
	y, err := w.get(t, key, now)
	z, there := x.of[key]
	if there && !w.may(t, key) {
		t.Fatalf("%q is denied", key)
	}
	if !there || z.Seq <= x.flushed || z.Expiry > 0 && z.Expiry <= now {
		if err != api.ErrNone {
			t.Fatalf("of %q, which is gone, Get tells %s, error %d", key, told(y), err)
		}
		return
	}
	if !same(y, z) || err != api.OK {
		t.Fatalf("Get(%q, %d) is %s, error %d; it should be %s", key, now, told(y), err, told(z))
	}
}

// names are keys, some of one finger, of several lengths.
func names() []string {
	l := append([]string{"a", "b", "\x00", strange, string(make([]byte, 250))}, kin...)
	for i := range 8 {
		l = append(l, "key "+strconv.Itoa(i))
	}
	return l
}

// run is a long run of all calls, drawn with that seed, held against the model and against what is true.
func run(t *testing.T, seed uint64, segments, sectors, slots, deeds int) {
	t.Helper()
	r := &drawn{seed}
	w := fresh(t, segments, sectors, slots)
	x := &truth{of: map[string]api.Item{}, in: map[string]uint64{}}
	keys := names()
	now, seq := uint32(0), uint64(0)
	for range deeds {
		key := keys[r.below(len(keys))]
		switch n := r.below(20); {
		case n < 7:
			seq++
			y := item(key, []int{0, 5, 60, 200, 512}[r.below(5)], seq)
			y.Expiry = []uint32{0, 0, now, now + 1, now + 20}[r.below(5)]
			_, there := x.of[key]
			switch err := w.put(t, y); {
			case err == api.OK:
				x.stands(w, y)
			case err != api.ErrFull || there && ring.Frees(w.s.Log().Ring()) > 0:
				t.Fatalf("Put is error %d", err)
			}
		case n < 9:
			seq++
			switch err := w.kill(t, key, seq); err {
			case api.OK:
				x.gone(func(k string) bool { return k == key })
			case api.ErrFull:
			default:
				t.Fatalf("Kill is error %d", err)
			}
		case n < 10 && r.below(4) == 0:
			to := seq - uint64(r.below(int(min(seq, 9))+1))
			ok(t, w.flush(t, to))
			x.flushed = max(x.flushed, to)
		case n < 11:
			ok(t, w.sync(t))
		case n < 12:
			now += uint32(r.below(5))
		case n < 14:
			if l := w.all(t); len(l) > 0 {
				p := l[r.below(len(l))]
				live := w.live(t, p)
				if z, there := x.of[string(p.Record.Key)]; live && (!there || z.Seq != p.Record.Seq) {
					t.Fatalf("%v is live", p)
				}
				switch err := w.move(t, p); {
				case err == api.OK && live:
					x.stands(w, x.of[string(p.Record.Key)])
				case err == api.ErrFull && live, err == api.ErrNone && !live:
				default:
					t.Fatalf("Move is error %d, live %t", err, live)
				}
			}
		case n < 16:
			segment := r.below(segments+2) - 1
			if r.below(3) > 0 {
				segment = w.oldest()
			}
			var generation uint64
			if segment >= 0 && segment < segments {
				generation = w.s.Log().Ring().Segs[segment].Generation
			}
			if w.retire(t, segment) == api.OK {
				x.gone(func(k string) bool { return x.in[k] == generation })
			}
		default:
			x.tells(t, w, key, now)
		}
		if w.s.Len() != len(x.of) || w.s.Degraded() {
			t.Fatalf("Len is %d; asked is %d; degraded %t", w.s.Len(), len(x.of), w.s.Degraded())
		}
	}
	for _, key := range keys {
		x.tells(t, w, key, now)
		x.tells(t, w, key, math.MaxUint32)
	}
	w.holds(t)
}

// P14.7: long runs of all calls drawn with fixed seeds, against the model and by the answers alone.
func TestRuns(t *testing.T) {
	for seed := range uint64(6) {
		run(t, seed, 4, 24, 3, 1500)
		run(t, seed+10, 4, 24, 30, 1500)
		run(t, seed+20, 7, 33, 10, 1500)
		run(t, seed+30, 16, 64, 1024, 1500)
	}
}

// P14.7, P2: long runs in which the disk fails, or its power goes, at any operation: against the model till then; behind each crash nothing is told that was killed, flushed, or outdone by what was safe, and what was safe is told.
func TestRunsWithCrashes(t *testing.T) {
	for seed := range uint64(12) {
		r := &drawn{seed}
		w := fresh(t, 4, 24, 16)
		keys := append([]string{"a", "b"}, kin[:3]...)
		x := &history{of: map[string][]api.Item{}, floor: map[string]uint64{}, firm: map[string]uint64{}}
		crashes := 0
		for range 1200 {
			if r.below(12) == 0 {
				w.fail(r.below(40))
			} else if r.below(12) == 0 {
				w.arm(r.below(40))
			}
			x.deed(t, w, r, keys[r.below(len(keys))])
			if w.s.Degraded() || w.d.Dead() || r.below(60) == 0 {
				keep := make([]bool, len(w.d.Pending()))
				for i := range keep {
					keep[i] = r.below(2) > 0
				}
				w = w.crash(t, keep)
				crashes++
				for _, key := range keys {
					x.behind(t, w, key)
				}
				x.settle(t, w)
			}
		}
		if crashes < 40 {
			t.Errorf("%d crashes", crashes)
		}
	}
}

// history is all that was put of each key, the least sequence that may be told of it still, and the one that must be told, or a later one (0: none must be).
type history struct {
	of    map[string][]api.Item
	floor map[string]uint64
	firm  map[string]uint64
	last  map[string]uint64
	seq   uint64
	under uint64 // up to this one all may be void
}

// deed is something done to the key, or to all.
func (x *history) deed(t *testing.T, w *watched, r *drawn, key string) {
	t.Helper()
	x.seq++
	switch r.below(8) {
	case 0, 1, 2:
		y := item(key, r.below(300), x.seq)
		err := w.put(t, y)
		y.Dirty = false
		x.of[key] = append(x.of[key], y)
		if err == api.OK {
			x.now(key, x.seq)
		}
	case 3:
		if w.kill(t, key, x.seq) == api.OK {
			x.synced()
			x.floor[key], x.firm[key] = x.seq, 0
			delete(x.last, key)
			return
		}
		x.firm[key] = 0 // it may have its tombstone
	case 4:
		if r.below(6) > 0 {
			return
		}
		x.under = x.seq - 1
		if w.flush(t, x.under) == api.OK {
			for _, k := range append([]string{"a", "b"}, kin...) {
				x.floor[k], x.firm[k] = max(x.floor[k], x.seq), 0
			}
		}
	case 5:
		if w.sync(t) == api.OK {
			x.synced()
		}
	case 6:
		if ring.Frees(w.s.Log().Ring()) < 2 && w.oldest() >= 0 {
			if w.clean(t) == api.OK {
				x.synced()
			}
		}
	case 7:
		y, err := w.get(t, key, 0)
		if err == api.OK && y.Seq < x.floor[key] {
			t.Fatalf("%s is told, which is gone", told(y))
		}
		if want, there := x.last[key]; there && err == api.OK && y.Seq != want {
			t.Fatalf("%s is told; the last one put has seq %d", told(y), want)
		}
	}
}

// now notes that the key's item was put.
func (x *history) now(key string, seq uint64) {
	if x.last == nil {
		x.last = map[string]uint64{}
	}
	x.last[key] = seq
}

// synced notes that what was put is safe.
func (x *history) synced() {
	for key, seq := range x.last {
		x.floor[key], x.firm[key] = max(x.floor[key], seq), max(x.firm[key], seq)
	}
}

// behind tells whether the key has behind a crash what it may have.
func (x *history) behind(t *testing.T, w *watched, key string) {
	t.Helper()
	y, err := w.get(t, key, 0)
	if err == api.OK {
		if y.Seq < x.floor[key] {
			t.Fatalf("behind a crash %s is told, which is gone; the floor is %d", told(y), x.floor[key])
		}
		for _, z := range x.of[key] {
			if same(y, z) {
				return
			}
		}
		t.Fatalf("behind a crash %s is told, which was never put", told(y))
	}
	if firm := x.firm[key]; firm > x.under {
		t.Fatalf("behind a crash %q has nothing, error %d; seq %d was safe", key, err, firm)
	}
}

// settle notes what is there behind a crash: it is safe.
func (x *history) settle(t *testing.T, w *watched) {
	t.Helper()
	x.last = map[string]uint64{}
	for key := range x.of {
		x.firm[key] = 0
		if y, err := w.get(t, key, 0); err == api.OK {
			x.floor[key], x.firm[key] = max(x.floor[key], y.Seq), y.Seq
			x.now(key, y.Seq)
		}
	}
	x.under = w.s.Log().Super().Get().Flush
}
