package store_test

import (
	"math"
	"slices"
	"testing"

	"icehouse/api"
)

// P14.5: Live of what stands where its entry says, of what was outdone, killed, flushed, of tombstones, of addresses where nothing stands.
func TestLive(t *testing.T) {
	w := fresh(t, 8, 24, 16)
	for i, x := range []api.Item{item("a", 5, 1), item("b", 5, 2), item("c", 5, 3), item("d", 5, 4), until(item("e", 5, 10), 1)} {
		ok(t, w.put(t, x))
		if p := w.placed(t, string(x.Key)); p.Address != (api.Address{Segment: 0, Generation: 1, Sector: i + 1}) || !w.live(t, p) {
			t.Fatalf("%v is not live", p)
		}
	}
	old := w.all(t)
	ok(t, w.put(t, item("b", 6, 11)))
	ok(t, w.kill(t, "c", 12))
	ok(t, w.flush(t, 4))
	var live []string
	for _, p := range w.all(t) {
		if w.live(t, p) {
			live = append(live, string(p.Record.Key)+" "+string('0'+rune(p.Address.Sector)))
		}
	}
	if want := []string{"e 5", "b 6"}; !slices.Equal(live, want) {
		t.Errorf("live are %q; asked are %q", live, want)
	}
	for _, p := range old[:4] {
		is(t, w.move(t, p), api.ErrNone)
	}
	// Whatever else of e's record is told at e's address: its key's finger, its kind and its Seq alone count.
	e := w.placed(t, "e")
	for _, x := range []struct {
		do   func(p *api.Placed)
		live bool
	}{
		{func(p *api.Placed) {}, true},
		{func(p *api.Placed) { p.Record.Seq = 5 }, true},
		{func(p *api.Placed) { p.Record.Seq = 4 }, false},
		{func(p *api.Placed) { p.Record.Seq = 0 }, false},
		{func(p *api.Placed) { p.Record.Seq = math.MaxUint64 }, true},
		{func(p *api.Placed) { p.Record.Kind = 2 }, false},
		{func(p *api.Placed) { p.Record.Kind = 0 }, false},
		{func(p *api.Placed) { p.Record.Kind = 3 }, false},
		{func(p *api.Placed) { p.Record.Kind = 257 }, false},
		{func(p *api.Placed) { p.Record.Expiry = 0 }, true},
		{func(p *api.Placed) { p.Record.Value = nil }, true},
		{func(p *api.Placed) { p.Record.Key = nil }, false},
		{func(p *api.Placed) { p.Record.Key = []byte("a") }, false},
		{func(p *api.Placed) { p.Address.Sector = 4 }, false},
		{func(p *api.Placed) { p.Address.Sector = 6 }, false},
		{func(p *api.Placed) { p.Address.Sector = -1 }, false},
		{func(p *api.Placed) { p.Address.Sector = math.MaxInt }, false},
		{func(p *api.Placed) { p.Address.Generation = 0 }, false},
		{func(p *api.Placed) { p.Address.Generation = 2 }, false},
		{func(p *api.Placed) { p.Address.Segment = 1 }, false},
		{func(p *api.Placed) { p.Address.Segment = -1 }, false},
		{func(p *api.Placed) { p.Address.Segment = 8 }, false},
		{func(p *api.Placed) { p.Address = api.Address{} }, false},
		{func(p *api.Placed) { *p = api.Placed{} }, false},
		{func(p *api.Placed) { p.Record = api.Record{} }, false},
	} {
		p := lentPlaced(e)
		x.do(&p)
		if w.live(t, p) != x.live {
			t.Errorf("Live of %v is %t", p, !x.live)
		}
		if !x.live {
			is(t, w.move(t, p), api.ErrNone)
		}
	}
	w.has(t, item("b", 6, 11))
}

// P14.5: Live asks nothing of the disk, and tells of a degraded store what it told ahead of that.
func TestLiveAsksNothing(t *testing.T) {
	w := fresh(t, 4, 24, 8)
	ok(t, w.put(t, item("a", 5, 1)))
	p := w.placed(t, "a")
	ops := w.d.Ops()
	w.arm(0)
	is(t, w.sync(t), api.ErrDead)
	if !w.live(t, p) || w.live(t, at(0, 1, 2, item("a", 5, 1))) || w.d.Ops() != ops {
		t.Error("Live has asked the disk, or is another one")
	}
}

// P14.5: a Move lays the same record at the log's end, and changes nothing that is got; its elder place is live no more.
func TestMove(t *testing.T) {
	w := fresh(t, 8, 24, 3)
	items := []api.Item{item("a", 100, 1), until(item("b", 0, 2), 70), item("c", 400, 3)}
	for _, x := range items {
		ok(t, w.put(t, x))
	}
	for i := range 9 {
		p := w.placed(t, string(items[i%3].Key))
		ok(t, w.move(t, p))
		is(t, w.move(t, p), api.ErrNone)
		q := w.placed(t, string(items[i%3].Key))
		if w.live(t, p) || !w.live(t, q) || p.Address == q.Address {
			t.Fatalf("it was moved from %v to %v", p.Address, q.Address)
		}
		for _, x := range items {
			w.has(t, x)
			y, err := w.get(t, string(x.Key), 70)
			if (err == api.OK) != (x.Expiry == 0) {
				t.Errorf("at 70 it is %s, error %d", told(y), err)
			}
		}
		if w.s.Len() != 3 {
			t.Fatalf("Len is %d", w.s.Len())
		}
	}
	w.holds(t)
}

// P14.5: an entry that was moved stands behind all others: of two of one finger it is asked first.
func TestMoveOrder(t *testing.T) {
	w := fresh(t, 4, 24, 8)
	for i, key := range kin {
		ok(t, w.put(t, item(key, 1, uint64(i+1))))
	}
	reads := func(key string) int {
		ops := w.d.Ops()
		w.get(t, key, 0)
		return w.d.Ops() - ops
	}
	for i, key := range kin {
		if n := reads(key); n != 4-i {
			t.Errorf("of %q there are %d reads", key, n)
		}
	}
	ok(t, w.move(t, w.placed(t, kin[0])))
	for i, n := range []int{1, 4, 3, 2} {
		if r := reads(kin[i]); r != n {
			t.Errorf("of %q there are %d reads; asked are %d", kin[i], r, n)
		}
	}
	ok(t, w.put(t, item(kin[2], 1, 9)))
	for i, n := range []int{2, 4, 1, 3} {
		if r := reads(kin[i]); r != n {
			t.Errorf("of %q there are %d reads; asked are %d", kin[i], r, n)
		}
	}
}

// P14.5: Move takes the record as it is told: it need not be the one that stands there; one that may not be is log.Append's ErrRecord.
func TestMoveTold(t *testing.T) {
	w := fresh(t, 4, 24, 8)
	ok(t, w.put(t, item("a", 5, 1)))
	p := w.placed(t, "a")
	p.Record.Value = make([]byte, 513)
	is(t, w.move(t, p), api.ErrRecord)
	w.has(t, item("a", 5, 1))
	p.Record = record(item("a", 50, 9))
	ok(t, w.move(t, p))
	w.has(t, item("a", 50, 9))
	// Another key of that finger: the entry is that one's then.
	ok(t, w.put(t, item(kin[0], 5, 10)))
	q := w.placed(t, kin[0])
	q.Record = record(item(kin[1], 6, 11))
	ok(t, w.move(t, q))
	w.hasNone(t, kin[0])
	w.has(t, item(kin[1], 6, 11))
	// The key of a finger that has an entry there may be none.
	ok(t, w.put(t, item(strange, 5, 12)))
	r := w.placed(t, strange)
	r.Record.Key = nil
	if !w.live(t, r) {
		t.Error("the index has such an entry")
	}
	is(t, w.move(t, r), api.ErrRecord)
	w.has(t, item(strange, 5, 12))
}

// P14.5: Move with all slots taken.
func TestMoveFullIndex(t *testing.T) {
	w := fresh(t, 4, 24, 1)
	ok(t, w.put(t, item("a", 5, 1)))
	for range 10 {
		ok(t, w.move(t, w.placed(t, "a")))
	}
	w.has(t, item("a", 5, 1))
	is(t, w.put(t, item("b", 5, 2)), api.ErrFull)
}

// P14.5: Retire of each segment, open, sealed, free, in each state of the ring; segments that there are not.
func TestRetire(t *testing.T) {
	for puts := range 6 {
		for segment := range 5 {
			w := fresh(t, 5, 24, 16)
			for i := range puts {
				if i < 5 {
					ok(t, w.put(t, sized(string('a'+rune(i)), 17, uint64(i+1))))
				}
			}
			before := w.s.Len()
			want := api.ErrState
			if segment == 0 && puts > 1 {
				want = api.OK
			}
			is(t, w.retire(t, segment), want)
			if n := w.s.Len(); n != before && want != api.OK || n != before-1 && want == api.OK {
				t.Errorf("Len is %d, was %d", n, before)
			}
			for i := range min(puts, 5) {
				x := sized(string('a'+rune(i)), 17, uint64(i+1))
				if i == segment && want == api.OK {
					w.hasNone(t, string(x.Key))
					if w.may(t, string(x.Key)) {
						t.Error("May tells of what was retired")
					}
					continue
				}
				w.has(t, x)
			}
			if len(w.d.Pending()) != 0 {
				t.Error("Retire has not synced")
			}
			for _, i := range outside(5) {
				ops := w.d.Ops()
				is(t, w.retire(t, i), api.ErrArg)
				if w.d.Ops() != ops {
					t.Error("Retire of no segment asks the disk")
				}
			}
			w.holds(t)
		}
	}
}

// P14.5: all segments retired, round and round: nothing of what was in them is told, all else is; there is room for as much again.
func TestRetireRound(t *testing.T) {
	w := fresh(t, 4, 24, 3)
	key := func(i int) api.Item { return sized(string('a'+rune(i%26)), 17, uint64(i+1)) }
	for i := range 60 {
		ok(t, w.put(t, key(i)))
		if i >= 2 {
			ok(t, w.retire(t, w.oldest()))
			w.hasNone(t, string(key(i-2).Key))
		}
		for j := max(0, i-1); j <= i; j++ {
			w.has(t, key(j))
		}
	}
	if w.s.Log().Super().Get().Retired != 58 {
		t.Errorf("known is %v", w.s.Log().Super().Get())
	}
}

// P14.5: Retire drops what was found at addresses of that generation, be they in that segment or not, and no others.
func TestRetireFound(t *testing.T) {
	d := formatted(t, 4, 24)
	w := over(t, d, 8)
	ok(t, w.put(t, sized("a", 17, 1)))
	ok(t, w.put(t, sized("b", 17, 2)))
	ok(t, w.sync(t))
	l, found := logOf(t, d)
	w = with(t, d, l, 8, append(found, at(2, 1, 5, item("c", 1, 3)), at(0, 5, 1, item("d", 1, 4))))
	ok(t, w.retire(t, 0))
	if w.s.Len() != 2 {
		t.Errorf("Len is %d", w.s.Len())
	}
	if !w.may(t, "c") || w.may(t, "d") {
		t.Error("the filters of the segments 0 and 2 are mixed up")
	}
	w.has(t, sized("b", 17, 2))
}
