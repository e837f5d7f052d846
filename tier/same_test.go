package tier_test

import (
	"slices"
	"testing"

	"icehouse/api"
	"icehouse/disk"
	"icehouse/ram"
	"icehouse/ring"
	"icehouse/store"
	"icehouse/tier"
)

// state is all that an engine has.
type state struct {
	ram   *ram.Ram
	store *store.Store
	seq   uint64
}

func stateOf(x *tier.Engine) state { return state{x.Ram(), x.Store(), x.Seq()} }

// sameState asks for two engines, and their disks, that are the same.
func sameState(t *testing.T, x, y *tier.Engine) {
	t.Helper()
	stateOf(x).is(t, stateOf(y))
}

// is asks for the same state as that one.
func (x state) is(t *testing.T, y state) {
	t.Helper()
	if a, b := slices.Collect(x.ram.All()), slices.Collect(y.ram.All()); !slices.EqualFunc(a, b, sameItem) {
		t.Fatalf("the Ram has %s; asked is %s", items(a...), items(b...))
	}
	if x.seq != y.seq {
		t.Fatalf("Seq is %d; asked is %d", x.seq, y.seq)
	}
	if x.store.Len() != y.store.Len() || x.store.Left() != y.store.Left() || x.store.Degraded() != y.store.Degraded() {
		t.Fatalf("Len is %d, degraded %t; asked are %d, %t", x.store.Len(), x.store.Degraded(), y.store.Len(), y.store.Degraded())
	}
	if a, b := x.store.Log().Ring(), y.store.Log().Ring(); !ring.Same(a, b) {
		t.Fatalf("the ring is %v; asked is %v", a, b)
	}
	if a, b := x.store.Log().Super().Get(), y.store.Log().Super().Get(); a != b {
		t.Fatalf("known is %v; asked is %v", a, b)
	}
	d, e := x.store.Log().Super().Disk(), y.store.Log().Super().Disk()
	if d.Ops() != e.Ops() || !slices.Equal(d.Pending(), e.Pending()) || d.Dead() != e.Dead() {
		t.Fatalf("the disk did %d operations, %v are pending; asked are %d, %v", d.Ops(), d.Pending(), e.Ops(), e.Pending())
	}
	a, b := d.Copy(), e.Copy()
	a.Crash(all(a))
	b.Crash(all(b))
	for i := range a.Len() {
		x, _ := a.Read(i)
		if y, _ := b.Read(i); x != y {
			t.Fatalf("sector %d is another one", i)
		}
	}
}

// twin is an engine, and another one that is as it was, on which the words are done call by call.
type twin struct {
	x *tier.Engine
	w *words
}

// twins makes both by the same maker.
func twins(t *testing.T, make func() *watched) twin {
	t.Helper()
	x, y := make().x, make().x
	return twin{x, &words{realRam{y.Ram()}, realStore{y.Store()}, y.Seq()}}
}

// disk is the engine's.
func (p twin) disk() *disk.Disk { return p.x.Store().Log().Super().Disk() }

// both does something to both disks.
func (p twin) both(do func(d *disk.Disk)) {
	do(p.disk())
	do(p.w.cold.(realStore).s.Log().Super().Disk())
}

// do does the command, and what the words say of it: the answers, and all that comes of it, must be the same.
func (p twin) do(t *testing.T, q api.Request, now uint32) api.Answer {
	t.Helper()
	a := doLent(t, p.x, q, now)
	asked := p.w.do(q, now)
	if !sameAnswer(a, asked) {
		t.Fatalf("%s at %d is %s; asked is %s", wished(q), now, told(a), told(asked))
	}
	stateOf(p.x).is(t, state{p.w.warm.(realRam).m, p.w.cold.(realStore).s, p.w.seq})
	return a
}
