package index_test

import (
	"math"
	"testing"

	"icehouse/api"
)

// deed is one of the things that can be done: of kind 0 and 1 with the entry, of kind 2 with its Generation.
type deed struct {
	kind int
	entry
}

// done does it with both and holds the answers against each other.
func (w *watched) done(t *testing.T, d deed) {
	t.Helper()
	switch d.kind {
	case 0:
		if got, want := w.x.Add(d.finger, d.address), w.p.add(d.entry); got != want {
			t.Fatalf("Add(%v) is %d; asked is %d", d.entry, got, want)
		}
	case 1:
		if got, want := w.x.Remove(d.finger, d.address), w.p.remove(d.entry); got != want {
			t.Fatalf("Remove(%v) is %d; asked is %d", d.entry, got, want)
		}
	case 2:
		g := d.address.Generation
		if got, want := w.x.Drop(g), w.p.drop(g); got != want {
			t.Fatalf("Drop(%d) is %d; asked is %d", g, got, want)
		}
	}
}

// P10.2 to P10.4: all sequences of five deeds, with three entries of two fingers that meet, in indexes of one to three slots.
func TestEachSequence(t *testing.T) {
	a, b, c := entry{1, at(0, 1, 1)}, entry{1, at(0, 2, 1)}, entry{1025, at(0, 1, 1)}
	deeds := []deed{{0, a}, {0, b}, {0, c}, {1, a}, {1, b}, {1, c}, {2, a}, {2, b}}
	const length = 5
	for slots := 1; slots <= 3; slots++ {
		for number := range int(math.Pow(float64(len(deeds)), length)) {
			w := of(t, slots)
			for range length {
				w.done(t, deeds[number%len(deeds)])
				number /= len(deeds)
			}
			w.asked = []uint32{1, 1025}
			w.same(t)
		}
	}
}

// P10.4: long runs: entries come and go many times as often as there are slots; Len and Left are all slots at every moment.
func TestLongRuns(t *testing.T) {
	for _, run := range []struct{ slots, fingers, step, sectors, generations, deeds, drops int }{
		{1, 2, 1024, 2, 2, 4000, 9},
		{2, 2, 1, 2, 2, 4000, 9},
		{3, 3, 1024, 2, 3, 6000, 20},
		{8, 5, 512, 3, 4, 8000, 30},
		{16, 1, 1, 30, 5, 8000, 40},
		{64, 40, 256, 4, 16, 12000, 150},
		{64, 9, 4194304, 20, 3, 12000, 300},
		{1023, 400, 1, 8, 16, 30000, 3000},
		{1024, 64, 1024, 40, 16, 30000, 3000},
		{1024, 3000, 1431655765, 1, 16, 30000, 5000},
	} {
		w := of(t, run.slots)
		d := &numbers{uint64(run.slots*1000 + run.fingers)}
		came := 0
		for i := range run.deeds {
			e := entry{uint32(d.below(run.fingers) * run.step), at(d.below(2), uint64(d.below(run.generations)), d.below(run.sectors))}
			kind := d.below(5) / 3 // three are added where two are removed
			if kind == 1 && d.below(2) == 0 && len(w.p.entries) > 0 {
				e = w.p.entries[d.below(len(w.p.entries))]
			}
			if d.below(run.drops) == 0 {
				kind = 2
			}
			before := len(w.p.entries)
			w.done(t, deed{kind, e})
			came += max(0, len(w.p.entries)-before)
			w.counts(t)
			w.found(t, e.finger)
			if i%max(1, run.slots/4) == 0 {
				w.same(t)
			}
		}
		w.same(t)
		if came < 5*run.slots {
			t.Errorf("only %d came to %d slots", came, run.slots)
		}
	}
}

// P10.4: laps: the index is filled and emptied by turns, in each way, many times; there is room for all slots each time.
func TestLaps(t *testing.T) {
	for _, slots := range []int{1, 2, 5, 100, 1024} {
		w := of(t, slots)
		for lap := range 8 {
			var l []entry
			for i := range slots {
				l = append(l, entry{uint32(i * (lap + 1) * 341), at(i, uint64(i%2), lap)})
				w.add(t, l[i], api.OK)
			}
			w.add(t, entry{1, at(-1, -1+1<<63, -1)}, api.ErrFull)
			w.same(t)
			w.empty(t, lap, l)
			w.same(t)
		}
	}
}

// empty takes all entries out: from the first on, from the last on, by Generations.
func (w *watched) empty(t *testing.T, lap int, l []entry) {
	t.Helper()
	switch lap % 3 {
	case 0:
		for _, e := range l {
			w.remove(t, e, api.OK)
		}
	case 1:
		for i := range l {
			w.remove(t, l[len(l)-1-i], api.OK)
		}
	case 2:
		w.drop(t, 1, len(l)/2)
		w.drop(t, 0, len(l)-len(l)/2)
	}
}
