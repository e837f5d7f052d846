package recover_test

import (
	"maps"
	"slices"
	"testing"

	"icehouse/api"
	"icehouse/clean"
	"icehouse/disk"
	"icehouse/recover"
	"icehouse/ring"
	"icehouse/store"
)

// diary is a store, and what its keys may have, by the answers alone: the sequence of what was put last (0: nothing), and those that may be told behind a crash.
type diary struct {
	s     *store.Store
	d     *disk.Disk
	seq   uint64
	items map[uint64]api.Item
	last  map[string]uint64
	may   map[string][]uint64
}

func newDiary(t *testing.T, segments int) *diary {
	t.Helper()
	d := empty(t, 2+segments*24)
	s, err := recover.Format(d, free(segments, 24), 64)
	is(t, err, api.OK)
	return &diary{s, d, 0, map[uint64]api.Item{}, map[string]uint64{}, map[string][]uint64{}}
}

// names are all keys of which something was said.
func (x *diary) names() []string { return slices.Sorted(maps.Keys(x.may)) }

// add says that behind a crash the key may have that, too.
func (x *diary) add(key string, seq uint64) {
	if x.may[key] == nil {
		x.may[key] = []uint64{0}
	}
	if !slices.Contains(x.may[key], seq) {
		x.may[key] = append(x.may[key], seq)
	}
}

// safe says that each key has behind a crash what it has now.
func (x *diary) safe() {
	for key := range x.may {
		x.may[key] = []uint64{x.last[key]}
	}
}

func (x *diary) put(name string, sectors int) api.Errno {
	x.seq++
	y := sized(name, sectors, x.seq)
	x.items[x.seq] = y
	err := x.s.Put(y)
	if err != api.ErrFull {
		x.add(string(y.Key), x.seq)
	}
	if err == api.OK {
		x.last[string(y.Key)] = x.seq
	}
	return err
}

func (x *diary) kill(key string) api.Errno {
	x.seq++
	err := x.s.Kill([]byte(key), x.seq)
	x.add(key, 0)
	if err == api.OK {
		x.last[key] = 0
		x.safe()
	}
	return err
}

func (x *diary) sync() api.Errno {
	err := x.s.Sync()
	if err == api.OK {
		x.safe()
	}
	return err
}

// flush flushes what was put up to seq.
func (x *diary) flush(seq uint64) api.Errno {
	err := x.s.Flush(seq)
	for key, l := range x.may {
		if err != api.OK {
			x.add(key, 0)
			continue
		}
		for i, y := range l {
			if y <= seq {
				l[i] = 0
			}
		}
		if x.last[key] <= seq {
			x.last[key] = 0
		}
	}
	return err
}

// move moves all that lives in the segment that is the oldest, or is open; nothing is lost by it, and nothing is safe that was not.
func (x *diary) move(t *testing.T, opened bool) api.Errno {
	t.Helper()
	at, none := ring.Oldest(x.s.Log().Ring())
	if opened {
		at, none = ring.Opened(x.s.Log().Ring())
	}
	if none != api.OK {
		return none
	}
	for _, p := range x.stands(t, at) {
		if x.s.Live(p) {
			if err := x.s.Move(p); err != api.OK {
				return err
			}
		}
	}
	return api.OK
}

// stands is what stands in a segment, told by a copy of the disk.
func (x *diary) stands(t *testing.T, segment int) []api.Placed {
	t.Helper()
	_, l := scansOf(t, x.d)
	return l[segment].Records
}

// step is a Step: if it fails, nothing is lost, and nothing is safe that was not.
func (x *diary) step() api.Errno {
	_, err := clean.Step(x.s, 0)
	if err == api.OK {
		x.safe()
	}
	return err
}

// retire makes the oldest segment free, by the store or by a Drop: what lives in it goes, or, if that fails, may go.
func (x *diary) retire(t *testing.T, drop bool) api.Errno {
	t.Helper()
	at, err := ring.Oldest(x.s.Log().Ring())
	if err != api.OK {
		return err
	}
	var keys []string
	if !x.d.Dead() {
		for _, p := range x.stands(t, at) {
			if x.s.Live(p) {
				keys = append(keys, string(p.Record.Key))
			}
		}
	}
	if drop {
		_, err = clean.Drop(x.s)
	} else {
		err = x.s.Retire(at)
	}
	for _, key := range keys {
		x.add(key, 0)
		if err == api.OK {
			x.last[key] = 0
		}
	}
	if err == api.OK {
		x.safe()
	}
	return err
}

// room is a Room: without Drops nothing is lost; if it fails, anything may be that was to be dropped.
func (x *diary) room(n int) api.Errno {
	r, err := clean.Room(x.s, n, 0)
	x.d.Fail(-1) // the diary's own questions are not to fail
	if err != api.OK {
		for key := range x.may {
			x.add(key, 0)
		}
		return err
	}
	if r.Drops > 0 {
		for key := range x.may {
			if _, err := x.s.Get([]byte(key), 0); err == api.ErrNone {
				x.last[key] = 0
			}
		}
	}
	if r != (api.Room{}) {
		x.safe()
	}
	return err
}

// tells asks the store, which is not degraded, for what each key has.
func (x *diary) tells(t *testing.T) {
	t.Helper()
	for _, key := range x.names() {
		y, err := x.s.Get([]byte(key), 0)
		seq := x.last[key]
		if (err == api.OK) != (seq > 0) || err != api.OK && err != api.ErrNone || y.Seq != seq || seq > 0 && !same(y, x.items[seq]) {
			t.Fatalf("%q has %s, error %d; it should have seq %d", key, told(y), err, seq)
		}
	}
}

// crash is the same diary behind a crash: of each key something is told that may be, once, and is safe from then on.
func (x *diary) crash(t *testing.T, keep []bool) *diary {
	t.Helper()
	d := x.d.Copy()
	d.Crash(keep)
	s, _ := open(t, d, 64)
	y := &diary{s, d, x.seq, x.items, map[string]uint64{}, map[string][]uint64{}}
	for _, key := range x.names() {
		z, err := s.Get([]byte(key), 0)
		if !slices.Contains(x.may[key], z.Seq) || z.Seq > 0 && !same(z, x.items[z.Seq]) || (err == api.OK) != (z.Seq > 0) {
			t.Fatalf("behind a crash %q has %s, error %d; it may have %v", key, told(z), err, x.may[key])
		}
		y.last[key], y.may[key] = z.Seq, []uint64{z.Seq}
	}
	y.once(t)
	return y
}

// once tells whether there are as many entries as keys that have something.
func (x *diary) once(t *testing.T) {
	t.Helper()
	n := 0
	for _, seq := range x.last {
		if seq > 0 {
			n++
		}
	}
	if x.s.Len() != n {
		t.Fatalf("there are %d entries of %d keys", x.s.Len(), n)
	}
}

// deed is a call, or several.
type deed func(x *diary) api.Errno

// small is how many of the scripts are small ones.
const small = 5

// scripts are what is done, deed by deed, with a disk of four segments: small ones, of whose pending writes each choice is tried; and those in which segments are filled, cleaned and dropped.
func scripts(t *testing.T) [][]deed {
	put := func(name string, sectors int) deed {
		return func(x *diary) api.Errno { return x.put(name, sectors) }
	}
	kill := func(key string) deed { return func(x *diary) api.Errno { return x.kill(key) } }
	flush := func(seq uint64) deed { return func(x *diary) api.Errno { return x.flush(seq) } }
	room := func(n int) deed { return func(x *diary) api.Errno { return x.room(n) } }
	step, sync := (*diary).step, (*diary).sync
	drop := func(x *diary) api.Errno { return x.retire(t, true) }
	retire := func(x *diary) api.Errno { return x.retire(t, false) }
	move := func(x *diary) api.Errno { return x.move(t, false) }
	stir := func(x *diary) api.Errno { return x.move(t, true) }
	big := longer("a", 250)
	return [][]deed{
		{put("a", 1), put("b", 2), sync, put("a", 2), put("b", 1), put("a", 1), put("c", 1), sync, put("a", 3), put("d", 2)},
		{put("a", 1), kill("a"), put("a", 2), put("a", 1), sync, put("b", 1), kill("a"), kill("b"), put("a", 2), put("b", 1), kill("nobody"), put("c", 1)},
		{put("a", 1), put("b", 1), flush(1), put("a", 1), put("c", 2), flush(2), flush(4), put("b", 1), kill("c"), put("c", 1), flush(3), flush(7), put("a", 1)},
		{put(kin[0], 1), put(kin[1], 2), put(kin[2], 1), sync, kill(kin[0]), put(kin[2], 2), put(kin[1], 1), kill(kin[2]), put(kin[0], 1), stir},
		{put("a", 1), put("b", 1), stir, put("a", 1), stir, kill("b"), sync, stir, stir, put("b", 1)},
		{put("a", 3), put("b", 11), put("c", 11), step, put("a", 2), put("d", 11), step, step, kill("b"), put("e", 1), step},
		{put("a", 9), put("b", 9), sync, put("a", 9), put("b", 5), step, kill("a"), put("c", 11), step, put("a", 11), step, step},
		{put("a", 17), put("b", 17), sync, put("c", 17), step, step, step, kill(big), step, step, put("a", 17), step},
		{put("a", 5), put("b", 5), put("c", 11), flush(1), put("a", 11), step, flush(3), put("d", 11), step, put("e", 11), step, step},
		{put("a", 2), put("b", 9), put("c", 17), move, put("a", 3), move, retire, put("d", 17), move, kill("a"), retire, put("e", 17), retire, put("a", 1)},
		{put("a", 1), put("b", 17), put("a", 5), put("c", 17), kill("a"), step, step, put("a", 9), step, kill(longer("b", 250)), step, put("a", 17), kill("a"), step},
		{put("a", 17), put("b", 17), drop, put("c", 17), put("a", 17), drop, kill(longer("b", 250)), drop, put("b", 11), step, drop},
		{put("a", 17), put("b", 17), put("c", 17), room(2), put("d", 17), room(1), room(2), kill(longer("d", 250)), room(2), put("a", 5), room(3)},
		{put("a", 2), put("b", 17), put("c", 17), put("d", 17), put("e", 17), room(1), put("a", 1), put("f", 17), room(2), room(3)},
	}
}

// P16.2, P16.4, P1, P2: a crash at each moment of each script, of whose pending writes each choice lives on, or many: of each key just what may be is told, once. What was killed, flushed, or outdone by what was safe does not come back; what was put and synced is there. Then all goes on, behind another crash, too.
func TestCrash(t *testing.T) {
	for i, script := range scripts(t) {
		t.Run(number(uint64(i)), func(t *testing.T) {
			t.Parallel()
			crashes := 0
			for n, done := 0, false; !done; n++ {
				x := newDiary(t, 4)
				x.d.Arm(n)
				err := api.OK
				for i := 0; i < len(script) && err == api.OK; i++ {
					if err = script[i](x); err == api.OK {
						x.tells(t)
					}
				}
				if err != api.OK && err != api.ErrDead {
					t.Fatalf("cut at %d: error %d", n, err)
				}
				done = err == api.OK
				choices := keeps
				if i >= small {
					choices = some
				}
				for i, keep := range choices(len(x.d.Pending())) {
					y := x.crash(t, keep)
					if (i+n)%25 == 1 {
						y.goesOn(t)
					}
					crashes++
				}
			}
			if crashes < 70 {
				t.Errorf("%d crashes", crashes)
			}
		})
	}
}

// goesOn tells whether the store behind a crash works, by all calls, behind another crash, too.
func (x *diary) goesOn(t *testing.T) {
	t.Helper()
	again, _ := open(t, x.d, 64)
	x.s = again
	x.tells(t)
	is(t, x.room(2), api.OK)
	is(t, x.put("a", 1), api.OK)
	is(t, x.kill("b"), api.OK)
	is(t, x.put("new", 2), api.OK)
	x.tells(t)
	y := x.crash(t, nil)
	x.crash(t, all(x.d)).tells(t)
	if err := y.step(); err != api.ErrNone && err != api.ErrFull {
		is(t, err, api.OK)
	}
	y.tells(t)
	is(t, y.flush(y.seq-1), api.OK)
	y.tells(t)
	y.crash(t, nil).tells(t)
}

// P16.4, P1, P2: the same with a disk that fails at each operation, and is used till an answer says so; then a crash.
func TestCrashBehindFailure(t *testing.T) {
	for i, script := range scripts(t) {
		t.Run(number(uint64(i)), func(t *testing.T) {
			t.Parallel()
			for n, done := 0, false; !done; n += 1 + n/60 {
				x := newDiary(t, 4)
				x.d.Fail(n)
				err := api.OK
				for i := 0; i < len(script) && err == api.OK; i++ {
					err = script[i](x)
				}
				done = err == api.OK
				if err != api.OK && err != api.ErrIo {
					t.Fatalf("cut at %d: error %d", n, err)
				}
				for _, keep := range [][]bool{nil, all(x.d), {true}, {false, true, false, true}, {true, true, false}} {
					x.crash(t, keep).goesOn(t)
				}
			}
		})
	}
}

// P16.4, P1, P2, P6: long runs in which the disk fails, or its power goes, at any operation: what is told, and what is told behind each crash, is just what may be; store behind store, while the log goes round.
func TestRunsWithCrashes(t *testing.T) {
	for seed := range uint64(12) {
		t.Run(number(seed), func(t *testing.T) {
			t.Parallel()
			r := &drawn{seed}
			x := newDiary(t, 4+int(seed)%3)
			crashes := 0
			for range 1000 {
				switch r.below(16) {
				case 0:
					x.d.Fail(r.below(120))
				case 1:
					x.d.Arm(r.below(60))
				}
				x.drawnDeed(t, r)
				if x.s.Degraded() || x.d.Dead() || r.below(40) == 0 {
					keep := make([]bool, len(x.d.Pending()))
					for i := range keep {
						keep[i] = r.below(2) > 0
					}
					x = x.crash(t, keep)
					crashes++
				}
				x.d.Fail(-1)
				if !x.d.Dead() {
					x.tells(t)
				}
			}
			if g := x.s.Log().Super().Get().Generation; crashes < 40 || g < 40 {
				t.Errorf("%d crashes, generation %d", crashes, g)
			}
		})
	}
}

// drawnDeed does something that is drawn.
func (x *diary) drawnDeed(t *testing.T, r *drawn) {
	t.Helper()
	key := slices.Concat(kin, []string{"a", "b"})[r.below(6)]
	switch n := r.below(24); {
	case n < 10:
		x.put(key, 1+r.below(11))
	case n < 12:
		x.kill(key)
	case n < 13 && r.below(4) == 0:
		x.flush(x.seq - uint64(r.below(int(min(x.seq, 5))+1)))
	case n < 14:
		x.sync()
	case n < 17:
		x.step()
	case n < 19:
		x.move(t, n < 18)
	case n < 20 && r.below(3) == 0:
		x.retire(t, r.below(2) > 0)
	default:
		if frees := ring.Frees(x.s.Log().Ring()); frees < 2 {
			x.room(1 + r.below(2))
		}
	}
	x.seq += uint64(r.below(3))
}
