package clean_test

import (
	"maps"
	"slices"
	"testing"

	"icehouse/api"
	"icehouse/clean"
	"icehouse/disk"
	"icehouse/ring"
	"icehouse/store"
)

// diary is a store, and what its keys may have, by the answers alone: the sequence of what was put last (0: nothing), and those that may be told behind a crash.
type diary struct {
	s     *store.Store
	d     *disk.Disk
	seq   uint64
	items map[uint64]api.Item
	last  map[string]uint64
	may   map[string][]uint64
}

func newDiary(t *testing.T, segments int) *diary {
	t.Helper()
	d := formatted(t, segments, 24)
	return &diary{recovered(t, d, 64), d, 0, map[uint64]api.Item{}, map[string]uint64{}, map[string][]uint64{}}
}

// names are all keys of which something was said.
func (x *diary) names() []string { return slices.Sorted(maps.Keys(x.may)) }

// add says that behind a crash the key may have that, too.
func (x *diary) add(key string, seq uint64) {
	if x.may[key] == nil {
		x.may[key] = []uint64{0}
	}
	x.may[key] = append(x.may[key], seq)
}

// now says that the key has that.
func (x *diary) now(key string, seq uint64) {
	x.add(key, seq)
	x.last[key] = seq
}

// safe says that each key has behind a crash what it has now.
func (x *diary) safe() {
	for key := range x.may {
		x.may[key] = []uint64{x.last[key]}
	}
}

func (x *diary) put(name string, sectors int) api.Errno {
	x.seq++
	y := sized(name, sectors, x.seq)
	x.items[x.seq] = y
	err := x.s.Put(y)
	switch err {
	case api.OK:
		x.now(string(y.Key), x.seq)
	case api.ErrFull:
	default:
		x.add(string(y.Key), x.seq)
	}
	return err
}

func (x *diary) kill(key string) api.Errno {
	x.seq++
	err := x.s.Kill([]byte(key), x.seq)
	x.add(key, 0)
	if err == api.OK {
		x.last[key] = 0
		x.safe()
	}
	return err
}

func (x *diary) sync() api.Errno {
	err := x.s.Sync()
	if err == api.OK {
		x.safe()
	}
	return err
}

// flush flushes what was put up to seq.
func (x *diary) flush(seq uint64) api.Errno {
	err := x.s.Flush(seq)
	for key, l := range x.may {
		if err == api.OK && x.last[key] <= seq {
			x.last[key] = 0
		}
		for i, y := range l {
			switch {
			case y > seq:
			case err == api.OK:
				l[i] = 0
			default:
				x.add(key, 0)
			}
		}
	}
	return err
}

// step is a Step: if it fails, nothing is lost, and nothing is safe that was not.
func (x *diary) step() api.Errno {
	_, err := clean.Step(x.s, 0)
	if err == api.OK {
		x.safe()
	}
	return err
}

// drop is a Drop: what lives in the oldest segment goes, or, if it fails, may go.
func (x *diary) drop(t *testing.T) api.Errno {
	t.Helper()
	l := x.inOldest(t)
	_, err := clean.Drop(x.s)
	for _, key := range l {
		x.add(key, 0)
		if err == api.OK {
			x.last[key] = 0
		}
	}
	if err == api.OK {
		x.safe()
	}
	return err
}

// room is a Room: without Drops nothing is lost; if it fails, anything may be that was to be dropped.
func (x *diary) room(t *testing.T, n int) api.Errno {
	t.Helper()
	r, err := clean.Room(x.s, n, 0)
	x.d.Fail(-1) // the diary's own questions are not to fail
	if err != api.OK {
		for key := range x.may {
			x.add(key, 0)
		}
		return err
	}
	if r.Drops > 0 {
		for _, key := range x.names() {
			if _, err := x.s.Get([]byte(key), 0); err == api.ErrNone {
				x.last[key] = 0
			}
		}
	}
	if r != (api.Room{}) {
		x.safe()
	}
	return err
}

// inOldest are the keys that live in the oldest segment, told by a copy of the disk.
func (x *diary) inOldest(t *testing.T) []string {
	t.Helper()
	at := oldestByWords(x.s)
	if at < 0 {
		return nil
	}
	var l []string
	for _, p := range scan(t, x.d, at) {
		if x.s.Live(p) {
			l = append(l, string(p.Record.Key))
		}
	}
	return l
}

// tells asks the store, which is not degraded, for what each key has.
func (x *diary) tells(t *testing.T) {
	t.Helper()
	names := x.names()
	for i, y := range hits(t, x.s, names, 0) {
		if seq := x.last[names[i]]; y.Seq != seq || seq > 0 && !same(y, x.items[seq]) {
			t.Fatalf("%q has %s; it should have seq %d", names[i], told(y), seq)
		}
	}
}

// crash is the same diary behind a crash: of each key something is told that may be, and is safe from then on.
func (x *diary) crash(t *testing.T, keep []bool) *diary {
	t.Helper()
	d := x.d.Copy()
	d.Crash(keep)
	y := &diary{recovered(t, d, 64), d, x.seq, x.items, map[string]uint64{}, map[string][]uint64{}}
	names := x.names()
	for i, z := range hits(t, y.s, names, 0) {
		key := names[i]
		if !slices.Contains(x.may[key], z.Seq) || z.Seq > 0 && !same(z, x.items[z.Seq]) {
			t.Fatalf("behind a crash %q has %s; it may have %v", key, told(z), x.may[key])
		}
		y.last[key], y.may[key] = z.Seq, []uint64{z.Seq}
	}
	return y
}

// scripts are what is done, deed by deed, with a disk of four segments.
func scripts(t *testing.T) [][]func(x *diary) api.Errno {
	put := func(name string, sectors int) func(x *diary) api.Errno {
		return func(x *diary) api.Errno { return x.put(name, sectors) }
	}
	kill := func(key string) func(x *diary) api.Errno {
		return func(x *diary) api.Errno { return x.kill(key) }
	}
	flush := func(seq uint64) func(x *diary) api.Errno {
		return func(x *diary) api.Errno { return x.flush(seq) }
	}
	room := func(n int) func(x *diary) api.Errno {
		return func(x *diary) api.Errno { return x.room(t, n) }
	}
	step, sync := (*diary).step, (*diary).sync
	drop := func(x *diary) api.Errno { return x.drop(t) }
	return [][]func(x *diary) api.Errno{
		{put("a", 3), put("b", 11), put("c", 11), step, put("a", 2), put("d", 11), step, step, kill("b"), put("e", 1), step},
		{put("a", 9), put("b", 9), sync, put("a", 9), put("b", 5), step, kill("a"), put("c", 11), step, put("a", 11), step, step},
		{put("a", 17), put("b", 17), sync, put("c", 17), step, step, step, kill(padded("a")), step, step, put("a", 17), step},
		{put("a", 5), put("b", 5), put("c", 11), flush(1), put("a", 11), step, flush(3), put("d", 11), step, put("e", 11), step, step},
		{put(kin[0], 5), put(kin[1], 5), put(kin[2], 11), put(kin[0], 11), step, kill(kin[1]), put(kin[3], 11), step, put(kin[1], 3), step, step},
		{put("a", 17), put("b", 17), drop, put("c", 17), put("a", 17), drop, kill(padded("b")), drop, put("b", 11), step, drop},
		{put("a", 17), put("b", 17), put("c", 17), room(2), put("d", 17), room(1), room(2), kill(padded("d")), room(2), put("a", 5), room(3)},
		{put("a", 2), put("b", 17), put("c", 17), put("d", 17), put("e", 17), room(1), put("a", 1), put("f", 17), room(2), room(3)},
	}
}

// P15.4, P1, P2: a crash at each moment of each script, of whose pending writes several choices live on: of each key just what may be is told; what was moved is there, what was killed, flushed or outdone by what was safe is not. Then all that is sealed is cleaned; it stays so, behind another crash, too.
func TestCrash(t *testing.T) {
	t.Parallel()
	crashes := 0
	for _, script := range scripts(t) {
		for n := 0; ; n++ {
			x := newDiary(t, 4)
			x.d.Arm(n)
			err := api.OK
			for i := 0; i < len(script) && err == api.OK; i++ {
				if err = script[i](x); err == api.OK {
					x.tells(t)
				}
			}
			if err != api.OK && err != api.ErrDead {
				t.Fatalf("cut at %d: error %d", n, err)
			}
			for i, keep := range keeps(len(x.d.Pending())) {
				y := x.crash(t, keep)
				if i < 3 {
					y.goesOn(t)
				}
				crashes++
			}
			if err == api.OK {
				break
			}
		}
	}
	if crashes < 5000 {
		t.Errorf("%d crashes", crashes)
	}
}

// goesOn tells whether the store behind a crash works.
func (x *diary) goesOn(t *testing.T) {
	t.Helper()
	for range 4 {
		if err := x.step(); err == api.ErrNone || err == api.ErrFull {
			break
		}
		x.tells(t)
	}
	is(t, x.room(t, 1), api.OK)
	x.tells(t)
	is(t, x.put("new", 17), api.OK)
	x.tells(t)
	x.crash(t, nil).tells(t)
	x.crash(t, all(x.d)).tells(t)
}

// P15.1 to P15.4, P1, P2, P6: long runs in which the disk fails, or its power goes, at any operation: what is told, and what is told behind each crash, is just what may be.
func TestRunsWithCrashes(t *testing.T) {
	t.Parallel()
	for seed := range uint64(16) {
		r := &drawn{seed}
		x := newDiary(t, 4+int(seed)%3)
		crashes := 0
		for range 1200 {
			switch r.below(16) {
			case 0:
				x.d.Fail(r.below(120))
			case 1:
				x.d.Arm(r.below(60))
			}
			x.drawnDeed(t, r)
			if x.s.Degraded() || x.d.Dead() || r.below(60) == 0 {
				keep := make([]bool, len(x.d.Pending()))
				for i := range keep {
					keep[i] = r.below(2) > 0
				}
				x = x.crash(t, keep)
				crashes++
			}
			x.d.Fail(-1)
			if !x.d.Dead() {
				x.tells(t)
			}
		}
		if g := x.s.Log().Super().Get().Generation; crashes < 40 || g < 40 {
			t.Errorf("%d crashes, generation %d", crashes, g)
		}
	}
}

// drawnDeed does something that is drawn.
func (x *diary) drawnDeed(t *testing.T, r *drawn) {
	t.Helper()
	key := slices.Concat(kin, []string{"a", "b"})[r.below(6)]
	switch n := r.below(20); {
	case n < 10:
		x.put(key, 1+r.below(11))
	case n < 12:
		x.kill(key)
	case n < 13 && r.below(4) == 0:
		x.flush(x.seq - uint64(r.below(int(min(x.seq, 5))+1)))
	case n < 14:
		x.sync()
	case n < 17:
		x.step()
	case n < 18 && r.below(3) == 0:
		x.drop(t)
	default:
		if frees := ring.Frees(x.s.Log().Ring()); frees < 2 {
			x.room(t, 1+r.below(2))
		}
	}
	x.seq += uint64(r.below(3))
}
