package store_test

import (
	"slices"
	"testing"

	"icehouse/api"
	"icehouse/disk"
	"icehouse/ring"
	"icehouse/store"
)

// said is something that was said of a key: that it has an item, or (without one) that it has none. It is safe when something was synced behind it.
type said struct {
	item *api.Item
	safe bool
}

// diary is a store, and what was said of its keys, by the answers alone; what is under way stands there as if it had been answered, but for a Flush.
type diary struct {
	s             *store.Store
	d             *disk.Disk
	of            map[string][]said
	seq           uint64
	flushed, high uint64 // answered; under way
}

func newDiary(t *testing.T) *diary {
	t.Helper()
	d := formatted(t, 4, 24)
	l, _ := logOf(t, d)
	s, err := store.New(l, 8, nil)
	if err != api.OK {
		t.Fatalf("New: error %d", err)
	}
	return &diary{s: s, d: d, of: map[string][]said{}}
}

// safe says that all is safe that was said, if there was no error.
func (x *diary) safe(err api.Errno) api.Errno {
	if err == api.OK {
		for _, l := range x.of {
			for i := range l {
				l[i].safe = true
			}
		}
	}
	return err
}

func (x *diary) next() uint64 { x.seq++; return x.seq }

func (x *diary) put(key string, sectors int) api.Errno {
	y := sized(key, sectors, x.next())
	err := x.s.Put(y)
	y.Dirty = false
	x.of[string(y.Key)] = append(x.of[string(y.Key)], said{item: &y})
	return err
}

func (x *diary) kill(key string) api.Errno {
	err := x.s.Kill([]byte(key), x.next())
	x.of[key] = append(x.of[key], said{})
	return x.safe(err)
}

func (x *diary) flush(seq uint64) api.Errno {
	x.high = max(x.high, seq)
	err := x.s.Flush(seq)
	if err == api.OK {
		x.flushed = max(x.flushed, seq)
	}
	return err
}

func (x *diary) sync() api.Errno { return x.safe(x.s.Sync()) }

// clean moves what lives in the oldest segment, and retires it.
func (x *diary) clean(t *testing.T) api.Errno {
	t.Helper()
	l := x.s.Log()
	segment, err := ring.Oldest(l.Ring())
	if err != api.OK {
		return err
	}
	w := &watched{d: x.d, p: &plain{log: l}}
	for _, p := range w.scan(t, segment) {
		if x.s.Live(p) {
			if err := x.s.Move(p); err != api.OK {
				return err
			}
		}
	}
	return x.safe(x.s.Retire(segment))
}

// scripts are what is done, deed by deed, in all of which room is left.
func scripts(t *testing.T) [][]func(x *diary) api.Errno {
	put := func(key string, sectors int) func(x *diary) api.Errno {
		return func(x *diary) api.Errno { return x.put(key, sectors) }
	}
	kill := func(key string) func(x *diary) api.Errno {
		return func(x *diary) api.Errno { return x.kill(key) }
	}
	flush := func(seq uint64) func(x *diary) api.Errno {
		return func(x *diary) api.Errno { return x.flush(seq) }
	}
	sync := func(x *diary) api.Errno { return x.sync() }
	clean := func(x *diary) api.Errno { return x.clean(t) }
	return [][]func(x *diary) api.Errno{
		{put("a", 1), put("b", 3), sync, put("a", 2), put("b", 1), put("a", 1), sync, put("c", 1)},
		{put("a", 1), kill("a"), put("a", 2), sync, kill("a"), kill("a"), kill("b"), put("a", 1), put("b", 1), sync, kill("b")},
		{put("a", 3), put("b", 17), sync, put("c", 11), put("b", 11), kill("a"), clean, put("a", 4), kill("c"), sync, clean, put("c", 9)},
		{put("a", 1), put("b", 1), sync, flush(1), put("c", 1), put("a", 1), flush(3), sync, flush(4), put("b", 1), kill("c"), flush(3)},
		{put(kin[0], 2), put(kin[1], 2), sync, kill(kin[0]), put(kin[2], 2), put(kin[1], 1), kill(kin[2]), sync, put(kin[0], 1), kill(kin[1])},
		{put("a", 9), put("b", 9), sync, put("c", 9), put("d", 9), clean, put("a", 9), put("b", 9), clean, kill("c"), clean, sync, put("e", 9), clean},
	}
}

// P14.2 to P14.7: a crash at each moment of each script, of whose pending writes several choices live on: of each key just what may be is told. What was killed, or flushed, or outdone by what was safe, never comes back; what was safe is there.
func TestCrash(t *testing.T) {
	crashes := 0
	for _, script := range scripts(t) {
		for n := 0; ; n++ {
			x := newDiary(t)
			x.d.Arm(n)
			err := api.OK
			for i := 0; i < len(script) && err == api.OK; i++ {
				err = script[i](x)
			}
			if err == api.OK {
				x.d.Arm(-1)
			} else if err != api.ErrDead {
				t.Fatalf("cut at %d: error %d", n, err)
			}
			for _, keep := range keeps(len(x.d.Pending())) {
				x.recovers(t, keep)
				crashes++
			}
			if err == api.OK {
				break
			}
		}
	}
	if crashes < 1000 {
		t.Errorf("%d crashes", crashes)
	}
}

// keeps are choices of which of n pending writes live on: none, all, each alone, all but each, all up to each, every other one.
func keeps(n int) [][]bool {
	choose := func(of func(i int) bool) []bool {
		keep := make([]bool, n)
		for i := range keep {
			keep[i] = of(i)
		}
		return keep
	}
	l := [][]bool{nil, choose(func(int) bool { return true })}
	for at := range n {
		l = append(l, choose(func(i int) bool { return i == at }),
			choose(func(i int) bool { return i != at }),
			choose(func(i int) bool { return i < at }))
	}
	if n > 1 {
		l = append(l, choose(func(i int) bool { return i%2 == 0 }), choose(func(i int) bool { return i%2 == 1 }))
	}
	return l
}

// recovers tells whether the store behind a crash tells of each key what may be, and works; the diary's own disk stays as it is.
func (x *diary) recovers(t *testing.T, keep []bool) {
	t.Helper()
	d := x.d.Copy()
	d.Crash(keep)
	l, found := logOf(t, d)
	s, err := store.New(l, 8, found)
	if err != api.OK {
		t.Fatalf("New: error %d", err)
	}
	for key, list := range x.of {
		y, err := s.Get([]byte(key), 0)
		if !x.allows(list, y, err) {
			t.Fatalf("behind a crash %q has %s, error %d", key, told(y), err)
		}
		if err == api.OK && !s.May([]byte(key)) {
			t.Fatalf("%q is denied", key)
		}
	}
	// It works: what is put now is there behind the next crash, what is killed is not.
	if ring.Frees(l.Ring()) == 0 {
		return
	}
	seq := x.seq + 1
	is(t, s.Kill([]byte("a"), seq), api.OK)
	z := item("new", 3, seq+1)
	is(t, s.Put(z), api.OK)
	is(t, s.Sync(), api.OK)
	d.Crash(nil)
	l, found = logOf(t, d)
	if s, err = store.New(l, 8, found); err != api.OK {
		t.Fatalf("New: error %d", err)
	}
	z.Dirty = false
	if y, err := s.Get(z.Key, 0); !same(y, z) {
		t.Fatalf("it is %s, error %d", told(y), err)
	}
	if _, err := s.Get([]byte("a"), 0); err != api.ErrNone {
		t.Fatalf("a was killed: error %d", err)
	}
}

// allows tells whether a key may have that, of which this was said: what was said last and is safe, or something behind it.
func (x *diary) allows(l []said, y api.Item, err api.Errno) bool {
	from := 0
	for i, z := range l {
		if z.safe {
			from = i
		}
	}
	may := []said{{}}
	if len(l) > 0 && l[from].safe {
		may = nil
	}
	may = append(may, l[min(from, len(l)):]...)
	for _, z := range may {
		switch {
		case z.item == nil || z.item.Seq <= x.high:
			if err == api.ErrNone {
				return true
			}
		}
		if z.item != nil && z.item.Seq > x.flushed && err == api.OK && same(*z.item, y) {
			return true
		}
	}
	return false
}

// P14.4: what was killed, or flushed, is not there behind a crash, whatever of the pending writes survives; what is put behind it may be.
func TestGone(t *testing.T) {
	for _, flush := range []bool{true, false} {
		x := newDiary(t)
		is(t, x.put("a", 3), api.OK)
		is(t, x.sync(), api.OK)
		is(t, x.put("a", 2), api.OK)
		if flush {
			is(t, x.flush(2), api.OK)
		} else {
			is(t, x.kill("a"), api.OK)
		}
		is(t, x.put("b", 5), api.OK)
		for _, keep := range keeps(len(x.d.Pending())) {
			d := x.d.Copy()
			d.Crash(keep)
			l, found := logOf(t, d)
			if slices.IndexFunc(found, func(p api.Placed) bool { return string(p.Record.Key) == "a" }) >= 0 {
				t.Fatal("a is found")
			}
			s, _ := store.New(l, 8, found)
			if _, err := s.Get([]byte("a"), 0); err != api.ErrNone {
				t.Fatalf("Get is error %d", err)
			}
		}
	}
}
