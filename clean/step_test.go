package clean_test

import (
	"math"
	"slices"
	"strconv"
	"testing"

	"icehouse/api"
)

// P15.1: with none, one, and as many sealed segments as there can be beside an open one; with each Step the oldest is told.
func TestStepSealed(t *testing.T) {
	for _, segments := range []int{4, 7, 16} {
		for puts := range segments + 1 {
			w := fresh(t, segments, 24, 32)
			keys := four(t, w, puts)
			x, err := w.step(t, 0)
			switch {
			case puts < 2:
				is(t, err, api.ErrNone)
			case puts == segments:
				is(t, err, api.ErrFull)
			default:
				if x != (api.Cleaned{Segment: 0, Moved: 1}) || err != api.OK {
					t.Errorf("Step is %v, error %d", x, err)
				}
			}
			w.has(t, keys...)
		}
	}
}

// P15.1: all segments are sealed, as behind a crash, the oldest being each of them: what lives has no room; where nothing does they go one by one, the oldest first.
func TestStepAllSealed(t *testing.T) {
	for first := range 4 {
		w := fresh(t, 4, 24, 16)
		for i := range first + 1 {
			w.puts(t, sized("old", 17, uint64(i+1)))
			if i > 0 {
				w.drop(t)
			}
		}
		for i := range 3 {
			w.puts(t, sized("new "+strconv.Itoa(i), 17, uint64(i+50)))
		}
		w.again(t)
		if w.p.opened() >= 0 || w.p.frees() > 0 {
			t.Fatalf("%d segments are free", w.p.frees())
		}
		_, err := w.step(t, 0)
		is(t, err, api.ErrFull)
		w.flush(t, 60)
		for i := range 4 {
			w.steps(t, 0, api.Cleaned{Segment: (first + i) % 4, Left: 1})
		}
		_, err = w.step(t, 0)
		is(t, err, api.ErrNone)
		w.has(t)
	}
}

// P15.1: an oldest segment in which all lives, nothing does, and each choice of its records: they stand behind each other anew, in the scan's order, and the others are not moved.
func TestStepSome(t *testing.T) {
	const n = 6
	for choice := range 1 << n {
		w := fresh(t, 5, 24, 16)
		var live, first []string
		for i := range n {
			key := "key " + strconv.Itoa(i)
			w.puts(t, sized(key, i%3+1, uint64(i+1)))
			first = append(first, key)
		}
		w.puts(t, sized("x", 17, 20))
		for i, key := range first {
			if choice>>i&1 > 0 {
				live = append(live, key)
				continue
			}
			is(t, w.kill(t, key, uint64(30+i)), api.OK)
		}
		w.steps(t, 0, api.Cleaned{Segment: 0, Moved: len(live), Left: n - len(live)})
		w.has(t, append(slices.Clone(live), padded("x"))...)
		var moved []string
		for i := 1; i < 5; i++ {
			for _, p := range w.scan(t, i) {
				if p.Record.Kind == api.RecordItem && p.Record.Seq < 20 {
					moved = append(moved, string(p.Record.Key))
				}
			}
		}
		if !slices.Equal(moved, live) {
			t.Fatalf("%q stand anew; asked are %q", moved, live)
		}
	}
}

// P15.1: an Expiry of 0, of now, and the numbers beside it, at moments from the first to the last.
func TestStepExpiry(t *testing.T) {
	for _, now := range []uint32{0, 1, 2, 100, 1 << 31, math.MaxUint32 - 1, math.MaxUint32} {
		w := fresh(t, 4, 24, 16)
		var live []string
		list := []uint32{0, now - 1, now, now + 1, 1, math.MaxUint32}
		for i, expiry := range list {
			x := until(sized("key "+strconv.Itoa(i), 1, uint64(i+1)), expiry)
			w.puts(t, x)
			if expiry == 0 || expiry > now {
				live = append(live, string(x.Key))
			}
		}
		w.puts(t, sized("x", 17, 20), sized("y", 17, 21))
		w.steps(t, now, api.Cleaned{Segment: 0, Moved: len(live) + 1, Left: len(list) - len(live)})
		if w.s.Len() != len(live)+2 {
			t.Errorf("at %d: Len is %d; asked is %d", now, w.s.Len(), len(live)+2)
		}
		// What was moved has the expiry that it had.
		for i, x := range w.hits(t, now) {
			if i < len(list) && (x.Seq > 0) != slices.Contains(live, w.names[i]) || x.Seq > 0 && i < len(list) && x.Expiry != list[i] {
				t.Errorf("at %d: %q is %s", now, w.names[i], told(x))
			}
		}
	}
}

// P15.1: records that were outdone (in the same segment, and later), killed, flushed, that have expired, and tombstones: none of them is moved, all of them are told as left.
func TestStepLeft(t *testing.T) {
	w := fresh(t, 4, 24, 16)
	w.puts(t, item("flushed", 5, 1), item("outdone", 5, 2))
	w.flush(t, 1)
	w.puts(t, item("outdone", 6, 3), item("later", 5, 4), item("killed", 5, 5), until(item("expired", 5, 6), 9), item("lives", 5, 7))
	is(t, w.kill(t, "killed", 8), api.OK)
	is(t, w.kill(t, "never", 9), api.OK)
	is(t, w.kill(t, "again", 10), api.OK)
	w.puts(t, item("again", 5, 11), sized("x", 17, 12), item("later", 6, 13))
	w.steps(t, 9, api.Cleaned{Segment: 0, Moved: 3, Left: 8})
	w.has(t, "outdone", "later", "lives", "again", padded("x"))
	for _, x := range w.hits(t, 0) {
		if key := string(x.Key); key == "outdone" && x.Seq != 3 || key == "later" && x.Seq != 13 {
			t.Errorf("%s is told", told(x))
		}
	}
	// May has forgotten what the segment alone had, and has what was moved.
	for key, may := range map[string]bool{"flushed": false, "killed": false, "expired": false, "never": false, "lives": true, "outdone": true, "later": true} {
		if w.s.May([]byte(key)) != may {
			t.Errorf("May(%q) is %t", key, !may)
		}
	}
}

// P15.1: what was flushed up to each sequence, in a segment of several.
func TestStepFlushed(t *testing.T) {
	for flush := range uint64(7) {
		w := fresh(t, 4, 24, 16)
		for i := range uint64(5) {
			w.puts(t, item("key "+strconv.FormatUint(i, 10), 5, i+1))
		}
		w.puts(t, sized("x", 17, 6), sized("y", 17, 7))
		w.flush(t, flush)
		w.steps(t, 0, api.Cleaned{Segment: 0, Moved: 6 - int(flush), Left: int(flush)})
	}
}

// P15.1: keys of one finger are told apart: each that lives is moved, once.
func TestStepKin(t *testing.T) {
	w := fresh(t, 4, 24, 16)
	for i, key := range kin {
		w.puts(t, item(key, 5, uint64(i+1)))
	}
	w.puts(t, item(kin[1], 6, 10), sized("x", 17, 11))
	is(t, w.kill(t, kin[2], 12), api.OK)
	w.puts(t, item(kin[3], 7, 13))
	w.steps(t, 0, api.Cleaned{Segment: 0, Moved: 3, Left: 4})
	w.has(t, kin[0], kin[1], kin[3], padded("x"))
}

// P15.1: a header alone, of which the power left nothing else: nothing is moved, nothing left.
func TestStepEmptySegment(t *testing.T) {
	w := fresh(t, 4, 24, 16)
	w.puts(t, item("a", 5, 1))
	w.d.Crash(nil)
	w.s = recovered(t, w.d, 16)
	w.p.parts[0] = part{state: api.SegSealed, generation: 1, used: 1}
	w.tells(t, 0)
	w.steps(t, 0, api.Cleaned{})
	w.has(t)
}

// P15.1: a log that has no room: ErrFull at each place of the scan, what was moved by then stays moved, the segment stays as it was, and nothing is lost. Once more nothing has room either, until something is dropped.
func TestStepFull(t *testing.T) {
	for small := range 6 {
		w := fresh(t, 4, 24, 16)
		var keys []string
		for i := range small {
			keys = append(keys, "small "+strconv.Itoa(i))
			w.puts(t, sized(keys[i], 1, uint64(i+1)))
		}
		for i, name := range []string{"big", "x", "y", "z"} {
			w.puts(t, sized(name, 17, uint64(i+10)))
			keys = append(keys, padded(name))
		}
		for again := range 3 {
			x, err := w.step(t, 0)
			if x != (api.Cleaned{}) || err != api.ErrFull {
				t.Fatalf("Step is %v, error %d", x, err)
			}
			moved := 0
			for _, p := range w.scan(t, 0) {
				if !w.s.Live(p) {
					moved++
				}
			}
			if moved != small || w.p.parts[3].used != 18+small || w.s.Degraded() {
				t.Fatalf("%d are moved, behind Step %d; asked are %d", moved, again, small)
			}
			w.has(t, keys...)
		}
		// Of what was moved nothing is dropped with the segment.
		if at, err := w.drop(t); at != 0 || err != api.OK {
			t.Fatalf("Drop is %d, error %d", at, err)
		}
		w.has(t, slices.DeleteFunc(keys, func(key string) bool { return key == padded("big") })...)
		w.steps(t, 0, api.Cleaned{Segment: 1, Moved: 1})
	}
}

// P15.1: what had room no more is the same behind a crash: what was moved, and not synced, is told, from one place or the other.
func TestStepFullCrash(t *testing.T) {
	for _, keep := range []bool{true, false} {
		w := fresh(t, 4, 24, 16)
		w.puts(t, sized("small", 1, 1), sized("big", 17, 2), sized("x", 17, 3), sized("y", 17, 4), sized("z", 17, 5))
		is(t, w.s.Sync(), api.OK)
		_, err := w.step(t, 0)
		is(t, err, api.ErrFull)
		if n := len(w.d.Pending()); n != 1 {
			t.Fatalf("%d writes are pending", n)
		}
		ahead := w.hits(t, 0)
		w.d.Crash([]bool{keep})
		w.s = recovered(t, w.d, 16)
		w.keeps(t, ahead, 0)
		if w.s.Len() != 5 {
			t.Errorf("Len is %d", w.s.Len())
		}
	}
}

// P15.1, P15.4: a Step behind a Step, till nothing is sealed any more, while what lives fits in one segment: nothing is lost, and less and less is taken.
func TestStepTillNone(t *testing.T) {
	for _, segments := range []int{4, 9, 16} {
		w := fresh(t, segments, 24, 64)
		seq := uint64(0)
		for round := range 3 {
			for w.p.frees() > 1 {
				seq++
				w.puts(t, sized("key "+strconv.Itoa(int(seq)%5), int(seq)%3+1, seq))
			}
			steps := 0
			for err := api.OK; err == api.OK; steps++ {
				_, err = w.step(t, 0)
				if err != api.OK {
					is(t, err, api.ErrNone)
				}
			}
			if steps < segments-1 || w.p.frees() != segments-1 || w.s.Len() != 5 {
				t.Errorf("round %d: %d Steps, %d segments free, Len is %d", round, steps, w.p.frees(), w.s.Len())
			}
		}
	}
}

// P15.1: a log full of what lives but for one segment goes round and round by Steps: each tells the next segment, and nothing is lost.
func TestStepRound(t *testing.T) {
	w := fresh(t, 5, 24, 8)
	keys := four(t, w, 4)
	for i := range 30 {
		w.steps(t, 0, api.Cleaned{Segment: i % 5, Moved: 1})
		w.has(t, keys...)
	}
}

// P15.1: segments of all sizes, full of records of all sizes.
func TestStepSizes(t *testing.T) {
	for _, sectors := range []int{24, 25, 40, 63, 64} {
		for size := 1; size <= 17; size++ {
			w := fresh(t, 4, sectors, 256)
			each := (sectors - 1) / size
			for i := range each + 1 {
				x := sized("key "+strconv.Itoa(i), size, uint64(i+1))
				if size == 17 {
					x.Key = slices.Concat([]byte(strconv.Itoa(i)), x.Key)[:250]
				}
				w.puts(t, x)
			}
			w.steps(t, 0, api.Cleaned{Segment: 0, Moved: each})
			w.steps(t, 0, api.Cleaned{Segment: 1, Moved: each})
			if w.s.Len() != each+1 {
				t.Fatalf("Len is %d", w.s.Len())
			}
		}
	}
}

// P15.1: all slots are taken: moving needs none.
func TestStepNoSlot(t *testing.T) {
	w := fresh(t, 4, 24, 3)
	keys := four(t, w, 3)
	is(t, w.put(t, item("more", 1, 9)), api.ErrFull)
	for i := range 8 {
		w.steps(t, 0, api.Cleaned{Segment: i % 4, Moved: 1})
		w.has(t, keys...)
	}
}
