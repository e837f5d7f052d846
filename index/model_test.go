package index_test

import (
	"math"
	"slices"
	"testing"

	"icehouse/api"
	"icehouse/index"
)

// topFinger and topGeneration are the greatest there are.
const (
	topFinger     uint32 = math.MaxUint32
	topGeneration uint64 = math.MaxUint64
)

// entry is a finger and an address.
type entry struct {
	finger  uint32
	address api.Address
}

// at is an address.
func at(segment int, generation uint64, sector int) api.Address {
	return api.Address{Segment: segment, Generation: generation, Sector: sector}
}

// plain is the chapter's words: a list of entries in the order in which they were added.
type plain struct {
	slots   int
	entries []entry
}

func (p *plain) add(e entry) api.Errno {
	switch {
	case slices.Contains(p.entries, e):
		return api.ErrThere
	case len(p.entries) == p.slots:
		return api.ErrFull
	}
	p.entries = append(p.entries, e)
	return api.OK
}

func (p *plain) find(finger uint32) []api.Address {
	var found []api.Address
	for _, e := range slices.Backward(p.entries) {
		if e.finger == finger {
			found = append(found, e.address)
		}
	}
	return found
}

func (p *plain) remove(e entry) api.Errno {
	i := slices.Index(p.entries, e)
	if i < 0 {
		return api.ErrNone
	}
	p.entries = slices.Delete(slices.Clone(p.entries), i, i+1)
	return api.OK
}

func (p *plain) drop(generation uint64) int {
	var stay []entry
	for _, e := range p.entries {
		if e.address.Generation != generation {
			stay = append(stay, e)
		}
	}
	gone := len(p.entries) - len(stay)
	p.entries = stay
	return gone
}

// watched is an index, and what it should be.
type watched struct {
	x *index.Index
	p *plain
	// asked are fingers of which Find is asked besides those of the entries.
	asked []uint32
}

// of is an index of so many slots to which those entries were added.
func of(t *testing.T, slots int, entries ...entry) *watched {
	t.Helper()
	x, err := index.New(slots)
	if x == nil || err != api.OK {
		t.Fatalf("New(%d) is %v, error %d", slots, x, err)
	}
	w := &watched{x: x, p: &plain{slots: slots}}
	for _, e := range entries {
		w.add(t, e, api.OK)
	}
	return w
}

// add adds the entry to both, and holds the answers against each other and what is asked.
func (w *watched) add(t *testing.T, e entry, asked api.Errno) {
	t.Helper()
	got, want := w.x.Add(e.finger, e.address), w.p.add(e)
	if got != want || got != asked {
		t.Fatalf("Add(%v) is %d, by the words %d; asked is %d", e, got, want, asked)
	}
	w.asked = append(w.asked, e.finger)
}

func (w *watched) remove(t *testing.T, e entry, asked api.Errno) {
	t.Helper()
	got, want := w.x.Remove(e.finger, e.address), w.p.remove(e)
	if got != want || got != asked {
		t.Fatalf("Remove(%v) is %d, by the words %d; asked is %d", e, got, want, asked)
	}
	w.asked = append(w.asked, e.finger)
}

func (w *watched) drop(t *testing.T, generation uint64, asked int) {
	t.Helper()
	got, want := w.x.Drop(generation), w.p.drop(generation)
	if got != want || got != asked {
		t.Fatalf("Drop(%d) is %d, by the words %d; asked is %d", generation, got, want, asked)
	}
}

// told is what All tells from now on.
func told(x *index.Index) []entry {
	var l []entry
	for finger, a := range x.All() {
		l = append(l, entry{finger, a})
	}
	return l
}

// same asks everything, and holds it against the words.
func (w *watched) same(t *testing.T) {
	t.Helper()
	if l := told(w.x); !slices.Equal(l, w.p.entries) {
		t.Fatalf("All tells %v; asked is %v", l, w.p.entries)
	}
	w.counts(t)
	fingers := slices.Clone(w.asked)
	for _, e := range w.p.entries {
		fingers = append(fingers, e.finger, e.finger+1, e.finger-1)
	}
	slices.Sort(fingers)
	for _, f := range slices.Compact(fingers) {
		w.found(t, f)
	}
}

// counts holds Len and Left against the words.
func (w *watched) counts(t *testing.T) {
	t.Helper()
	n := len(w.p.entries)
	if w.x.Len() != n || w.x.Left() != w.p.slots-n {
		t.Fatalf("Len is %d and Left %d; asked is %d of %d slots", w.x.Len(), w.x.Left(), n, w.p.slots)
	}
}

// found holds what Find answers against the words.
func (w *watched) found(t *testing.T, finger uint32) {
	t.Helper()
	if got, want := w.x.Find(finger), w.p.find(finger); !slices.Equal(got, want) {
		t.Fatalf("Find(%d) is %v; asked is %v", finger, got, want)
	}
}

// numbers are told by a rule, the same in every run.
type numbers struct{ last uint64 }

// below tells a number from 0 to n - 1.
func (d *numbers) below(n int) int {
	d.last = d.last*6364136223846793005 + 1442695040888963407
	return int(d.last >> 33 % uint64(n))
}
