package store_test

import (
	"bytes"
	"math"
	"slices"
	"strconv"
	"testing"

	"icehouse/api"
	"icehouse/log"
	"icehouse/store"
)

// The chapter's examples: P14.2 to P14.4, P14.6.
func TestExamples(t *testing.T) {
	w := fresh(t, 4, 24, 2)
	a, b, c := item("a", 5, 1), item("b", 6, 2), item("c", 7, 3)
	ok(t, w.put(t, a))
	ok(t, w.put(t, b))
	is(t, w.put(t, c), api.ErrFull)
	w.has(t, a)
	ok(t, w.kill(t, "a", 4))
	w.hasNone(t, "a")
	c.Seq = 5
	ok(t, w.put(t, c))
	ok(t, w.flush(t, 2))
	w.hasNone(t, "b")
	w.has(t, c)
	ok(t, w.flush(t, 1))
	w.has(t, c)
	w.fail(0)
	is(t, w.sync(t), api.ErrIo)
	c.Seq = 6
	is(t, w.put(t, c), api.ErrIo)
	w.hasNone(t, "c")
	if !w.s.Degraded() {
		t.Error("the store is not degraded")
	}
}

// P14.1: how many slots may be; of a nil log nothing else is asked.
func TestNewSlots(t *testing.T) {
	l, _ := logOf(t, formatted(t, 4, 24))
	for _, slots := range []int{math.MinInt, math.MinInt32, -1024, -2, -1, 0, 1025, 1026, 1 << 16, 1<<32 + 1, math.MaxInt} {
		refuses(t, l, slots, nil, api.ErrArg)
		refuses(t, l, slots, []api.Placed{{}}, api.ErrArg)
		refuses(t, nil, slots, nil, api.ErrNil)
	}
	for _, slots := range []int{1, 2, 3, 1023, 1024} {
		s, err := store.New(l, slots, nil)
		if err != api.OK || s.Len() != 0 || s.Left() != slots || s.Log() != l || s.Degraded() {
			t.Errorf("New with %d slots: error %d, Len %d, Left %d", slots, err, s.Len(), s.Left())
		}
		refuses(t, nil, slots, nil, api.ErrNil)
		refuses(t, nil, slots, []api.Placed{{}}, api.ErrNil)
	}
}

// refuses tells whether New answers just that error.
func refuses(t *testing.T, l *log.Log, slots int, found []api.Placed, want api.Errno) {
	t.Helper()
	if s, err := store.New(l, slots, found); s != nil || err != want {
		t.Fatalf("New with %d slots and %d found is %v, error %d; asked is %d", slots, len(found), s, err, want)
	}
}

// severalPlaced are so many items, of keys of their own, each at an address of its own.
func severalPlaced(n int) []api.Placed {
	var l []api.Placed
	for i := range n {
		l = append(l, at(i%4, uint64(i%4+1), i/4+1, item("key "+strconv.Itoa(i), i%5, uint64(i+1))))
	}
	return l
}

// P14.1: found with none, one, as many as there are slots, and one more.
func TestNewCounts(t *testing.T) {
	d := formatted(t, 4, 24)
	l, _ := logOf(t, d)
	for _, slots := range []int{1, 2, 3, 10, 1024} {
		for n := range slots + 3 {
			if n > 3 && n < slots-1 {
				continue
			}
			found := severalPlaced(n)
			if n > slots {
				refuses(t, l, slots, found, api.ErrFull)
				continue
			}
			w := with(t, d, l, slots, found)
			if w.s.Len() != n || w.s.Left() != slots-n {
				t.Errorf("of %d slots, %d found: Len %d, Left %d", slots, n, w.s.Len(), w.s.Left())
			}
			for _, p := range found {
				if !w.live(t, p) || !w.may(t, string(p.Record.Key)) {
					t.Errorf("%v is not live", p)
				}
				w.hasNone(t, string(p.Record.Key)) // nothing stands there
			}
		}
	}
}

// wrong is something that New refuses, with its error; it hangs on what stands ahead of it, if that is anything.
type wrong struct {
	p    api.Placed
	want api.Errno
}

// wrongs are such ones behind one that is right.
func wrongs(right api.Placed) []wrong {
	good := at(2, 7, 9, item("good", 3, 5))
	change := func(do func(p *api.Placed)) api.Placed {
		p := lentPlaced(good)
		do(&p)
		return p
	}
	l := []wrong{
		{api.Placed{}, api.ErrRecord},
		{tomb(good.Address, "good", 5), api.ErrRecord},
		{change(func(p *api.Placed) { p.Record.Kind = 0 }), api.ErrRecord},
		{change(func(p *api.Placed) { p.Record.Kind = 3 }), api.ErrRecord},
		{change(func(p *api.Placed) { p.Record.Kind = 257 }), api.ErrRecord},
		{change(func(p *api.Placed) { p.Record.Kind = -1 }), api.ErrRecord},
		{change(func(p *api.Placed) { p.Record.Seq = 0 }), api.ErrRecord},
		{change(func(p *api.Placed) { p.Record.Key = nil }), api.ErrRecord},
		{change(func(p *api.Placed) { p.Record.Key = make([]byte, 251) }), api.ErrRecord},
		{change(func(p *api.Placed) { p.Record.Value = make([]byte, 513) }), api.ErrRecord},
		{change(func(p *api.Placed) { p.Record = right.Record }), api.ErrThere},
		{change(func(p *api.Placed) { *p = right }), api.ErrThere},
		{at(right.Address.Segment, right.Address.Generation, right.Address.Sector, item(kin[1], 0, 9)), api.ErrThere},
		// Of two that hold the first one is told.
		{change(func(p *api.Placed) { *p = right; p.Record.Seq = 0 }), api.ErrRecord},
		{change(func(p *api.Placed) { *p = right; p.Address.Segment = 4 }), api.ErrArg},
	}
	for _, segment := range outside(4) {
		l = append(l, wrong{change(func(p *api.Placed) { p.Address.Segment = segment }), api.ErrArg},
			wrong{change(func(p *api.Placed) { p.Address.Segment = segment; p.Record.Seq = 0 }), api.ErrRecord})
	}
	return l
}

// P14.1: each of its errors at each place, the slots being as many as are found, fewer, and more. Of two wrong ones the first one's error is told.
func TestNewErrors(t *testing.T) {
	l, _ := logOf(t, formatted(t, 4, 24))
	right := at(0, 1, 1, item(kin[0], 3, 1))
	found := append([]api.Placed{right}, severalPlaced(8)[1:]...)
	for _, x := range wrongs(right) {
		for place := 1; place <= len(found); place++ {
			list := slices.Insert(slices.Clone(found), place, x.p)
			for _, slots := range []int{place, place + 1, len(found), len(found) + 1, 1024} {
				if slots >= place {
					refuses(t, l, slots, list, x.want)
				}
			}
			// One that has no slot any more is looked at all the same, but nothing behind it.
			refuses(t, l, place, slices.Concat(list[:place], []api.Placed{x.p}), x.want)
			if place > 1 {
				refuses(t, l, place-1, list, api.ErrFull)
			}
			for _, y := range wrongs(right) {
				refuses(t, l, 1024, slices.Insert(slices.Clone(list), place+1, y.p), x.want)
			}
		}
	}
	for _, x := range wrongs(right) {
		if x.want != api.ErrThere {
			refuses(t, l, 9, slices.Insert(slices.Clone(found), 0, x.p), x.want)
			refuses(t, l, 9, []api.Placed{x.p}, x.want)
		}
	}
}

// P14.1: one that is like another one in its address alone, in its finger alone, or in all of its address but one number, may be.
func TestNewAlike(t *testing.T) {
	d := formatted(t, 4, 24)
	l, _ := logOf(t, d)
	w := with(t, d, l, 9, []api.Placed{
		at(1, 2, 3, item(kin[0], 1, 1)),
		at(1, 2, 3, item("other", 1, 1)),
		at(2, 2, 3, item(kin[1], 1, 1)),
		at(1, 3, 3, item(kin[2], 1, 1)),
		at(1, 2, 4, item(kin[3], 1, 1)),
		at(0, 0, 0, item("a", 0, math.MaxUint64)),
		at(3, math.MaxUint64, math.MaxInt, until(item("b", 512, 1), math.MaxUint32)),
		at(3, 1, math.MinInt, item(string(bytes.Repeat([]byte("k"), 250)), 0, 2)),
		at(3, 1, -1, item("\x00", 0, 2)),
	})
	is(t, w.put(t, item("one more", 1, 1)), api.ErrFull)
}

// P14.1: what was found, and stands there, is got; where another record stands, or a tombstone, or nothing, it is not, and nothing else is.
func TestNewFound(t *testing.T) {
	d := formatted(t, 4, 24)
	w := over(t, d, 8)
	a, b, c := item(kin[0], 30, 1), item(kin[1], 80, 2), item("c", 3, 3)
	ok(t, w.put(t, a))
	ok(t, w.put(t, b))
	ok(t, w.kill(t, kin[2], 4))
	ok(t, w.put(t, c))
	ok(t, w.sync(t))
	l, found := logOf(t, d)
	if len(found) != 3 {
		t.Fatalf("%d are found", len(found))
	}
	first, second, third := found[0], found[1], found[2]
	dead := tomb(api.Address{Segment: first.Address.Segment, Generation: first.Address.Generation, Sector: second.Address.Sector + 3}, kin[2], 4)
	if r, err := l.Read(dead.Address); r.Kind != 2 || err != api.OK {
		t.Fatalf("no tombstone stands at %v", dead.Address)
	}

	x := with(t, d, l, 8, found)
	for _, y := range []api.Item{a, b, c} {
		x.has(t, y)
	}
	// A tombstone's address is nobody's entry, whoever it is told for.
	l, _ = logOf(t, d)
	killed := api.Placed{Address: dead.Address, Record: record(item(kin[2], 9, 9))}
	x = with(t, d, l, 8, []api.Placed{first, killed})
	x.has(t, a)
	x.hasNone(t, kin[1])
	x.hasNone(t, kin[2])
	// Two of one finger whose addresses are told the other way round; a third one that stands nowhere.
	l, _ = logOf(t, d)
	x = with(t, d, l, 8, []api.Placed{
		{Address: second.Address, Record: first.Record},
		{Address: first.Address, Record: second.Record},
		{Address: third.Address, Record: record(item(kin[3], 1, 1))},
		{Address: api.Address{Segment: 3, Generation: 9, Sector: 1}, Record: third.Record},
	})
	x.has(t, a)
	x.has(t, b)
	x.hasNone(t, "c")
	x.hasNone(t, kin[3])
	if x.s.Len() != 4 {
		t.Errorf("Len is %d", x.s.Len())
	}
	ok(t, x.put(t, item(kin[0], 1, 11)))
	x.has(t, item(kin[0], 1, 11))
	x.has(t, b)
	if x.s.Len() != 4 {
		t.Errorf("Len is %d behind a Put", x.s.Len())
	}
	is(t, x.move(t, third), api.ErrNone)
}

// P14.1, P14.2, P14.5: what was found at an address at which nothing stands as yet is not in the way of what comes there.
func TestNewFoundAhead(t *testing.T) {
	d := formatted(t, 4, 24)
	for _, order := range [][]int{{0, 1, 2}, {2, 1, 0}, {1, 0, 2}} {
		l, _ := logOf(t, d)
		var found []api.Placed
		for _, i := range order {
			found = append(found, at(0, 1, i+1, item(kin[i], 20, 9)))
		}
		c := d.Copy()
		l, _ = logOf(t, c)
		w := with(t, c, l, 5, found)
		for i, seq := range []int{0, 1, 1, 2, 0} {
			x := item(kin[seq], 20, uint64(i+1))
			ok(t, w.put(t, x))
			w.has(t, x)
		}
		p := w.placed(t, kin[1])
		ok(t, w.move(t, p))
		for _, key := range kin {
			w.get(t, key, 0)
		}
		ok(t, w.kill(t, kin[0], 9))
		w.hasNone(t, kin[0])
	}
	// A move to an address that was told as found, and a tombstone there.
	c := d.Copy()
	l, _ := logOf(t, c)
	w := with(t, c, l, 5, []api.Placed{at(0, 1, 2, item(kin[1], 20, 9)), at(0, 1, 4, item(kin[2], 20, 9))})
	ok(t, w.put(t, item(kin[0], 20, 1)))
	ok(t, w.move(t, w.placed(t, kin[0])))
	w.has(t, item(kin[0], 20, 1))
	ok(t, w.put(t, item(kin[0], 20, 2)))
	if w.s.Len() != 2 {
		t.Errorf("Len is %d", w.s.Len())
	}
	ok(t, w.kill(t, kin[0], 3))
	w.hasNone(t, kin[0])
	ok(t, w.kill(t, kin[1], 4))
	w.hasNone(t, kin[1])
	// All slots are taken, one of them by the address that comes next.
	c = d.Copy()
	l, _ = logOf(t, c)
	w = with(t, c, l, 1, []api.Placed{at(0, 1, 1, item(kin[0], 20, 9))})
	is(t, w.put(t, item(kin[0], 20, 1)), api.ErrFull)
	if n := w.s.Log().Ring().Segs[0].Used; n != 0 {
		t.Errorf("%d sectors are used", n)
	}
	// The zero address may be told as found, and is not taken for none.
	c = d.Copy()
	l, _ = logOf(t, c)
	w = with(t, c, l, 2, []api.Placed{at(0, 0, 0, item("a", 20, 9))})
	ok(t, w.put(t, item("a", 20, 1)))
	ok(t, w.kill(t, "a", 2))
	ok(t, w.kill(t, "a", 3))
	if w.s.Len() != 1 {
		t.Errorf("Len is %d", w.s.Len())
	}
}

// P14.1, P14.3: the filters have what was found, by its segments; Retire empties them.
func TestNewFilters(t *testing.T) {
	d := formatted(t, 4, 24)
	w := over(t, d, 8)
	ok(t, w.put(t, sized("a", 17, 1)))
	ok(t, w.put(t, sized("b", 17, 2)))
	ok(t, w.put(t, sized("c", 17, 3)))
	ok(t, w.sync(t))
	w = over(t, d, 8)
	for i, name := range []string{"a", "b", "c"} {
		key := string(sized(name, 17, 1).Key)
		if !w.may(t, key) {
			t.Errorf("%q is denied", key)
		}
		ok(t, w.retire(t, i))
		if w.may(t, key) {
			t.Errorf("%q may be there still", key)
		}
	}
}

// P14.1, P14.6: of a log that is broken already the store is degraded.
func TestNewOverBroken(t *testing.T) {
	d := formatted(t, 4, 24)
	l, _ := logOf(t, d)
	d.Fail(0)
	l.Sync()
	s, err := store.New(l, 3, severalPlaced(2))
	if err != api.OK || !s.Degraded() || s.Len() != 2 || s.Left() != 1 {
		t.Fatalf("error %d", err)
	}
	is(t, s.Put(item("a", 1, 1)), api.ErrIo)
	if _, err := s.Get([]byte("key 0"), 0); err != api.ErrNone {
		t.Errorf("Get is error %d", err)
	}
}

// P14.1: New neither reads nor writes, be the disk dead or not.
func TestNewAsksNothing(t *testing.T) {
	d := formatted(t, 4, 24)
	l, _ := logOf(t, d)
	d.Arm(0)
	d.Sync()
	before := d.Ops()
	s, err := store.New(l, 3, severalPlaced(3))
	if err != api.OK || d.Ops() != before || s.Degraded() || s.Log() != l || s.Len() != 3 {
		t.Errorf("error %d, %d operations", err, d.Ops()-before)
	}
}

// R4, P14.2 to P14.6: a nil store.
func TestNil(t *testing.T) {
	var s *store.Store
	for _, key := range [][]byte{nil, []byte("a"), make([]byte, 251)} {
		for _, seq := range []uint64{0, 1, math.MaxUint64} {
			p := api.Placed{Record: api.Record{Kind: 1, Key: key, Seq: seq}}
			is(t, s.Put(api.Item{Key: key, Seq: seq}), api.ErrNil)
			is(t, s.Kill(key, seq), api.ErrNil)
			is(t, s.Flush(seq), api.ErrNil)
			is(t, s.Move(p), api.ErrNil)
			if s.Live(p) {
				t.Error("something is live")
			}
		}
		if x, err := s.Get(key, 7); !same(x, api.Item{}) || err != api.ErrNil {
			t.Errorf("Get is %s, error %d", told(x), err)
		}
		if s.May(key) {
			t.Error("a key may be there")
		}
	}
	is(t, s.Sync(), api.ErrNil)
	for i := -1; i < 5; i++ {
		is(t, s.Retire(i), api.ErrNil)
	}
	if s.Degraded() || s.Len() != 0 || s.Left() != 0 || s.Log() != nil {
		t.Errorf("Degraded %t, Len %d, Left %d", s.Degraded(), s.Len(), s.Left())
	}
}

// P14.6: the log is the one that was handed in, which is shared; Len and Left are all slots at every moment.
func TestTold(t *testing.T) {
	d := formatted(t, 4, 24)
	l, _ := logOf(t, d)
	s, _ := store.New(l, 3, nil)
	if s.Log() != l {
		t.Fatal("Log is another one")
	}
	for i, n := range []int{1, 2, 2, 3} {
		ok(t, s.Put(item([]string{"a", "b", "a", "c"}[i], 1, uint64(i+1))))
		if s.Len() != n || s.Left() != 3-n {
			t.Errorf("Len is %d, Left %d; asked are %d, %d", s.Len(), s.Left(), n, 3-n)
		}
	}
	ok(t, s.Flush(9)) // what is void keeps its slot
	if s.Len() != 3 || s.Left() != 0 {
		t.Errorf("Len is %d, Left %d behind a Flush", s.Len(), s.Left())
	}
	ok(t, s.Kill([]byte("a"), 10))
	ok(t, s.Kill([]byte("a"), 11))
	if s.Len() != 2 || s.Left() != 1 {
		t.Errorf("Len is %d, Left %d behind a Kill", s.Len(), s.Left())
	}
	d.Fail(0)
	s.Sync()
	if s.Len() != 2 || s.Left() != 1 || s.Log() != l || !l.Broken() || !s.Degraded() {
		t.Errorf("Len is %d, Left %d, degraded %t", s.Len(), s.Left(), s.Degraded())
	}
}
