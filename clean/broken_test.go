package clean_test

import (
	"math"
	"slices"
	"testing"

	"icehouse/api"
	"icehouse/clean"
	"icehouse/disk"
	"icehouse/log"
	"icehouse/ring"
	"icehouse/store"
)

// situations are makers of stores, of each of which all is safe.
func situations(t *testing.T) []func() *watched {
	make := func(items ...api.Item) *watched {
		w := fresh(t, 4, 24, 16)
		for i, x := range items {
			x.Seq = uint64(i + 1)
			w.puts(t, x)
		}
		return w
	}
	safe := func(w *watched) *watched { is(t, w.s.Sync(), api.OK); return w }
	big := func(name string) api.Item { return sized(name, 17, 1) }
	return []func() *watched{
		func() *watched { return safe(make()) },
		func() *watched { return safe(make(item("a", 5, 1))) },
		// All is moved to what is open; some of it has a tombstone, or has expired at 50.
		func() *watched {
			w := make(sized("a", 3, 1), until(sized("b", 2, 1), 50), item("c", 5, 1), item("a", 9, 1))
			is(t, w.kill(t, "c", 20), api.OK)
			w.puts(t, item("d", 5, 21), sized("x", 17, 22))
			return safe(w)
		},
		// A segment is opened for what is moved.
		func() *watched { return safe(make(big("a"), big("b"))) },
		func() *watched { return safe(make(sized("a", 4, 1), sized("b", 8, 1), sized("c", 9, 1), big("d"))) },
		// What is moved goes to two segments.
		func() *watched { return safe(make(sized("a", 5, 1), big("b"), big("c"))) },
		// There is no room: for anything; for all of it.
		func() *watched { return safe(make(big("a"), big("b"), big("c"), big("d"))) },
		func() *watched {
			return safe(make(sized("a", 2, 1), sized("b", 1, 1), big("c"), big("d"), big("e"), big("f")))
		},
		// Nothing lives there.
		func() *watched { return safe(make(big("a"), big("b"), big("a"), item("a", 3, 1))) },
		func() *watched { w := make(big("a"), big("b"), big("c")); w.flush(t, 2); return safe(w) },
		// Behind a crash: all that is there is sealed.
		func() *watched { return safe(make(big("a"), item("b", 5, 1), big("c"))).again(t) },
		// Segments that were taken once already.
		func() *watched {
			w := make(big("a"), big("b"), big("c"), big("a"))
			w.drop(t)
			w.drop(t)
			w.puts(t, item(kin[0], 5, 30), item(kin[1], 5, 31), big("e"))
			return safe(w)
		},
	}
}

// answer is what a call told.
type answer struct {
	cleaned api.Cleaned
	dropped int
	room    api.Room
	err     api.Errno
}

// deed is a call of the package, at a moment, and what the chapter says of it in words, done call by call of the layers below; drops says whether items may go by it.
type deed struct {
	now   uint32
	drops bool
	call  func(s *store.Store) answer
	words func(s *store.Store) answer
}

func deeds() []deed {
	var l []deed
	for _, now := range []uint32{0, 50} {
		l = append(l, deed{now, false,
			func(s *store.Store) answer { x, err := clean.Step(s, now); return answer{cleaned: x, err: err} },
			func(s *store.Store) answer {
				x, err := stepByWords(s, now)
				if err != api.OK {
					x = api.Cleaned{}
				}
				return answer{cleaned: x, err: err}
			}})
	}
	l = append(l, deed{0, true,
		func(s *store.Store) answer { x, err := clean.Drop(s); return answer{dropped: x, err: err} },
		func(s *store.Store) answer { x, err := dropByWords(s); return answer{dropped: x, err: err} }})
	for n := range 4 {
		l = append(l, deed{0, true,
			func(s *store.Store) answer { x, err := clean.Room(s, n, 0); return answer{room: x, err: err} },
			func(s *store.Store) answer {
				frees := func() int { return ring.Frees(s.Log().Ring()) }
				step := func() (api.Cleaned, api.Errno) { return stepByWords(s, 0) }
				drop := func() api.Errno { _, err := dropByWords(s); return err }
				x, err := roomByWords(4, n, frees, step, drop)
				return answer{room: x, err: err}
			}})
	}
	return l
}

// oldestByWords is the sealed segment with the least generation; -1, if there is none.
func oldestByWords(s *store.Store) int {
	at, segs := -1, s.Log().Ring().Segs
	for i, x := range segs {
		if x.State == api.SegSealed && (at < 0 || x.Generation < segs[at].Generation) {
			at = i
		}
	}
	return at
}

// stepByWords is Step, call by call; beside an error it tells how many were moved by then.
func stepByWords(s *store.Store, now uint32) (api.Cleaned, api.Errno) {
	at := oldestByWords(s)
	if at < 0 {
		return api.Cleaned{}, api.ErrNone
	}
	scan, err := log.Scan(s.Log().Super(), at)
	if err != api.OK {
		return api.Cleaned{}, err
	}
	moved := 0
	for _, p := range scan.Records {
		if s.Live(p) && !gone(p.Record, now) {
			if err := s.Move(p); err != api.OK {
				return api.Cleaned{Moved: moved}, err
			}
			moved++
		}
	}
	if err := s.Retire(at); err != api.OK {
		return api.Cleaned{}, err
	}
	return api.Cleaned{Segment: at, Moved: moved, Left: len(scan.Records) - moved}, api.OK
}

func dropByWords(s *store.Store) (int, api.Errno) {
	at := oldestByWords(s)
	if at < 0 {
		return 0, api.ErrNone
	}
	if err := s.Retire(at); err != api.OK {
		return 0, err
	}
	return at, api.OK
}

// cut is each deed in each situation, with a disk that was told to go wrong at each of the operations that the deed does; the store of whom is told to be what the words make of another one.
func cut(t *testing.T, spoil func(d *disk.Disk, n int), want api.Errno, then func(w *watched, x deed, ahead []api.Item)) int {
	t.Helper()
	cuts := 0
	for _, make := range situations(t) {
		for _, x := range deeds() {
			for n := 0; ; n++ {
				w, v := make(), make()
				ahead := w.hits(t, x.now)
				v.hits(t, x.now)
				spoil(w.d, n)
				spoil(v.d, n)
				got, asked := x.call(w.s), x.words(v.s)
				if got != asked {
					t.Fatalf("cut at %d it is %v; asked is %v", n, got, asked)
				}
				alike(t, w, v)
				spoil(w.d, -1)
				if got.err != api.ErrIo && got.err != api.ErrDead {
					if !x.drops {
						w.keeps(t, ahead, x.now)
					}
					break
				}
				if got != (answer{err: want}) {
					t.Fatalf("cut at %d it is %v", n, got)
				}
				cuts++
				then(w, x, ahead)
			}
		}
	}
	return cuts
}

// alike asks for two stores, and their disks, that are the same.
func alike(t *testing.T, w, v *watched) {
	t.Helper()
	if w.s.Len() != v.s.Len() || w.s.Left() != v.s.Left() || w.s.Degraded() != v.s.Degraded() {
		t.Fatalf("Len is %d, degraded %t; asked are %d, %t", w.s.Len(), w.s.Degraded(), v.s.Len(), v.s.Degraded())
	}
	if a, b := w.s.Log().Ring(), v.s.Log().Ring(); !ring.Same(a, b) {
		t.Fatalf("the ring is %v; asked is %v", a, b)
	}
	if a, b := w.s.Log().Super().Get(), v.s.Log().Super().Get(); a != b {
		t.Fatalf("known is %v; asked is %v", a, b)
	}
	if w.d.Ops() != v.d.Ops() || !slices.Equal(w.d.Pending(), v.d.Pending()) || w.d.Dead() != v.d.Dead() {
		t.Fatalf("the disk did %d operations, %v are pending; asked are %d, %v", w.d.Ops(), w.d.Pending(), v.d.Ops(), v.d.Pending())
	}
	a, b := w.d.Copy(), v.d.Copy()
	a.Crash(all(a))
	b.Crash(all(b))
	for i := range a.Len() {
		x, _ := a.Read(i)
		if y, _ := b.Read(i); x != y {
			t.Fatalf("sector %d is another one", i)
		}
	}
}

// P15.1 to P15.4: each call in each situation is cut at each of its operations by ErrIo: that error and zeros, what was done ahead of it and no more. Behind a read that failed all goes on, and nothing is lost; behind a write or a sync the store is degraded.
func TestFails(t *testing.T) {
	t.Parallel()
	reads := 0
	cuts := cut(t, func(d *disk.Disk, n int) { d.Fail(n) }, api.ErrIo, func(w *watched, x deed, ahead []api.Item) {
		if !w.s.Degraded() {
			reads++
			if !x.drops {
				w.keeps(t, ahead, x.now)
			}
			if again := x.call(w.s); again.err == api.ErrIo || again.err == api.ErrDead {
				t.Fatalf("once more it is %v", again)
			}
			if w.s.Degraded() {
				t.Fatal("the store is degraded by a read")
			}
			return
		}
		refusing(t, w)
		behind(t, w, x, ahead)
	})
	if cuts < 1000 || reads < 500 {
		t.Errorf("%d cuts, %d of them reads", cuts, reads)
	}
}

// P15.1 to P15.4: the same, as the power goes at each write and sync.
func TestPowerGoes(t *testing.T) {
	t.Parallel()
	cuts := cut(t, func(d *disk.Disk, n int) { d.Arm(n) }, api.ErrDead, func(w *watched, x deed, ahead []api.Item) {
		if !w.s.Degraded() || !w.d.Dead() {
			t.Fatal("the power goes, and the store is not degraded")
		}
		refusing(t, w)
		behind(t, w, x, ahead)
	})
	if cuts < 300 {
		t.Errorf("%d cuts", cuts)
	}
}

// behind tells whether each key has behind a crash what it had ahead of the deed; nothing, too, if the deed drops.
func behind(t *testing.T, w *watched, x deed, ahead []api.Item) {
	t.Helper()
	for i, keep := range keeps(len(w.d.Pending())) {
		d := w.d.Copy()
		d.Crash(keep)
		s := recovered(t, d, 16)
		now := hits(t, s, w.names, x.now)
		for i, y := range now {
			if !same(y, ahead[i]) && !(x.drops && y.Seq == 0) {
				t.Fatalf("behind a crash %q has %s; it had %s", w.names[i], told(y), told(ahead[i]))
			}
		}
		if i < 2 {
			cleans(t, s, w.names, now, x.now)
		}
	}
}

// cleans cleans all that is sealed, as far as there is room; each key has it still. Then there is room for anything.
func cleans(t *testing.T, s *store.Store, names []string, ahead []api.Item, now uint32) {
	t.Helper()
	for range 4 {
		_, err := clean.Step(s, now)
		if err == api.ErrNone || err == api.ErrFull {
			break
		}
		is(t, err, api.OK)
		for i, y := range hits(t, s, names, now) {
			if !same(y, ahead[i]) {
				t.Fatalf("behind a Step %q has %s; it had %s", names[i], told(y), told(ahead[i]))
			}
		}
	}
	if _, err := clean.Room(s, 3, now); err != api.OK || ring.Frees(s.Log().Ring()) < 3 {
		t.Fatalf("behind a crash Room is error %d", err)
	}
}

// keeps are choices of which of n pending writes live on: none, every other one, all, all up to some.
func keeps(n int) [][]bool {
	l := [][]bool{nil, nil, nil}
	for i := range n {
		l[1] = append(l[1], i%2 == 0)
		l[2] = append(l[2], i%2 == 1)
	}
	for _, k := range slices.Compact([]int{min(n, 1), n / 2, max(n-1, 0), n}) {
		l = append(l, slices.Repeat([]bool{true}, k))
	}
	return l
}

// refusing asks a degraded store everything: nothing is done, and what needs no disk is answered as ever.
func refusing(t *testing.T, w *watched) {
	t.Helper()
	if !w.s.Degraded() {
		t.Fatal("the store is not degraded")
	}
	r, ops, n := w.s.Log().Ring(), w.d.Ops(), w.s.Len()
	for _, now := range []uint32{0, 50, math.MaxUint32} {
		if x, err := clean.Step(w.s, now); x != (api.Cleaned{}) || err != api.ErrIo {
			t.Fatalf("Step is %v, error %d", x, err)
		}
	}
	if x, err := clean.Drop(w.s); x != 0 || err != api.ErrIo {
		t.Fatalf("Drop is %d, error %d", x, err)
	}
	for _, k := range counts(len(r.Segs)) {
		want := api.ErrIo
		switch {
		case k < 0 || k >= len(r.Segs):
			want = api.ErrArg
		case k <= ring.Frees(r):
			want = api.OK
		}
		if x, err := clean.Room(w.s, k, 0); x != (api.Room{}) || err != want {
			t.Fatalf("Room(%d), while %d are free, is %v, error %d", k, ring.Frees(r), x, err)
		}
	}
	if w.d.Ops() != ops || !ring.Same(w.s.Log().Ring(), r) || w.s.Len() != n {
		t.Fatal("a degraded store was changed")
	}
}

// P15.1 to P15.3: a store that is degraded, by its log or by a Flush, in each situation: ErrIo goes ahead of there being nothing sealed.
func TestDegraded(t *testing.T) {
	for _, make := range situations(t) {
		for _, flush := range []bool{true, false} {
			w := make()
			w.d.Fail(0)
			err := w.s.Sync
			if flush {
				err = func() api.Errno { return w.s.Flush(99) }
			}
			is(t, err(), api.ErrIo)
			if w.s.Log().Broken() == flush {
				t.Fatal("the log is broken by a Flush, or not by a Sync")
			}
			refusing(t, w)
			if flush {
				continue
			}
			w.d.Crash(nil)
			refusing(t, w)
		}
	}
}

// P15.1 to P15.3: a disk that is dead, which the store does not know as yet. A Step is told by its scan, and the store is not degraded by that; a Drop is told by its sync, and it is.
func TestDead(t *testing.T) {
	for _, make := range situations(t) {
		w := make()
		w.d.Arm(0)
		is(t, w.d.Sync(), api.ErrDead)
		none := w.p.oldest() < 0
		stepped, dropped := api.ErrDead, api.ErrDead
		if none {
			stepped, dropped = api.ErrNone, api.ErrNone
		}
		if x, err := clean.Step(w.s, 0); x != (api.Cleaned{}) || err != stepped {
			t.Fatalf("Step is %v, error %d", x, err)
		}
		for _, n := range counts(4) {
			want := api.ErrDead
			switch {
			case n < 0 || n >= 4:
				want = api.ErrArg
			case n <= w.p.frees():
				want = api.OK
			}
			if x, err := clean.Room(w.s, n, 0); x != (api.Room{}) || err != want {
				t.Fatalf("Room(%d) is %v, error %d", n, x, err)
			}
		}
		if w.s.Degraded() {
			t.Fatal("the store is degraded by what was read")
		}
		if x, err := clean.Drop(w.s); x != 0 || err != dropped || w.s.Degraded() == none {
			t.Fatalf("Drop is %d, error %d, degraded %t", x, err, w.s.Degraded())
		}
	}
}

// P15.1 to P15.3: which operations a call does.
func TestOps(t *testing.T) {
	count := func(w *watched, do func(s *store.Store) api.Errno) int {
		ops := w.d.Ops()
		is(t, do(w.s), api.OK)
		return w.d.Ops() - ops
	}
	step := func(s *store.Store) api.Errno { _, err := clean.Step(s, 0); return err }
	drop := func(s *store.Store) api.Errno { _, err := clean.Drop(s); return err }
	room := func(n int) func(s *store.Store) api.Errno {
		return func(s *store.Store) api.Errno { _, err := clean.Room(s, n, 0); return err }
	}
	small := func() *watched {
		w := fresh(t, 4, 24, 16)
		w.puts(t, sized("a", 1, 1), sized("b", 2, 2), sized("c", 3, 3), sized("b", 1, 4), sized("x", 17, 5))
		return w
	}
	full := func() *watched { w := fresh(t, 4, 24, 16); four(t, w, 4); return w }
	three := func() *watched { w := fresh(t, 4, 24, 16); four(t, w, 3); return w }
	const scan, retire, open = 24, 3, 4
	for i, x := range []struct{ got, want int }{
		{count(small(), step), scan + 1 + 3 + 1 + retire},
		{count(small(), drop), retire},
		{count(small(), room(3)), scan + 1 + 3 + 1 + retire},
		{count(three(), step), scan + open + 17 + retire},
		{count(three(), room(2)), 8*(scan+open+17+retire) + retire},
		{count(full(), drop), retire},
		{count(full(), room(3)), scan + 3*retire},
	} {
		if x.got != x.want {
			t.Errorf("call %d: %d operations; asked are %d", i, x.got, x.want)
		}
	}
}
