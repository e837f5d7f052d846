package tier_test

import (
	"maps"
	"slices"
	"strconv"
	"testing"

	"icehouse/api"
	"icehouse/disk"
	"icehouse/recover"
	"icehouse/store"
	"icehouse/tier"
)

// diary is an engine, and what it may answer, by the answers alone.
type diary struct {
	p   plan
	x   *tier.Engine
	d   *disk.Disk
	m   *ideal
	now uint32
	// What was persisted, and not asked to be written since: it is told as long as what lives fits.
	safe map[string]bool
	keys map[string]bool // all that were asked for
}

func newDiary(t *testing.T, p plan) *diary {
	t.Helper()
	d, s := formatted(t, p)
	return &diary{p, made(t, s, p.pages), d, newIdeal(), 0, map[string]bool{}, map[string]bool{}}
}

// do does a command, whose answer must be one that may be.
func (x *diary) do(t *testing.T, q api.Request) api.Answer {
	t.Helper()
	key := string(q.Key)
	x.keys[key] = true
	a := doLent(t, x.x, q, x.now)
	x.m.asks(t, q, a, x.now)
	switch {
	case q.Op == api.OpFlush:
		clear(x.safe)
	case q.Op == api.OpPersist && a.Status == api.StatusOK:
		// All that the Ram has is on the disk, but for what was dropped there.
		for y := range x.x.Ram().All() {
			if _, err := x.x.Store().Get(y.Key, 0); err == api.OK {
				x.safe[string(y.Key)] = true
			}
		}
	case q.Op != api.OpGet:
		delete(x.safe, key)
	}
	turn(a.Value)
	return a
}

// crash is the same diary behind a crash: of each key something is told that may be; what was persisted is told, if exact says so. No sequence comes back.
func (x *diary) crash(t *testing.T, keep []bool, exact bool) *diary {
	t.Helper()
	d := x.d.Copy()
	d.Crash(keep)
	y := &diary{x.p, made(t, opened(t, d, x.p.slots), x.p.pages), d, x.m.crashed(), x.now, map[string]bool{}, maps.Clone(x.keys)}
	if y.x.Seq() < x.x.Seq() {
		t.Fatalf("behind a crash Seq is %d, ahead of it it was %d", y.x.Seq(), x.x.Seq())
	}
	for _, key := range slices.Sorted(maps.Keys(x.keys)) {
		if key == "" || len(key) > 250 {
			continue
		}
		a := y.do(t, get(key))
		if exact && x.safe[key] && a.Status == api.StatusNone && !x.expired(key) {
			t.Fatalf("%q was persisted, and is not there behind a crash", key)
		}
	}
	return y
}

// expired tells whether one of the versions that the key may have has expired.
func (x *diary) expired(key string) bool {
	return slices.ContainsFunc(x.m.safe[key], func(v version) bool { return v.expiry > 0 && v.expiry <= x.now })
}

// opened is the store of a disk behind a crash.
func opened(t *testing.T, d *disk.Disk, slots int) *store.Store {
	t.Helper()
	s, _, err := recover.Open(d, slots)
	is(t, err, api.OK)
	return s
}

// goesOn tells whether the engine behind a crash works: tokens rise, what is persisted stays, what is deleted does not, behind one more crash, too.
func (x *diary) goesOn(t *testing.T) {
	t.Helper()
	x.do(t, set("new", "x"))
	x.do(t, set("k", "new"))
	x.do(t, ask(api.OpIncr, "n", delta(1)))
	if a := x.do(t, persist()); a.Status != api.StatusOK {
		t.Fatalf("behind a crash persist is %s", told(a))
	}
	if a := x.do(t, ask(api.OpDelete, "k")); a.Status != api.StatusOK {
		t.Fatalf("behind a crash delete is %s", told(a))
	}
	x.do(t, ask(api.OpTouch, "a"))
	x.crash(t, nil, true)
	y := x.crash(t, all(x.d), true)
	y.do(t, ask(api.OpFlush, ""))
	y.do(t, set("k", "last"))
	y.crash(t, nil, true)
}

// scripts are what is done, command by command: small ones, in which nothing is dropped; and those in which the log goes round.
func scripts() [][]api.Request {
	great := func(n int) api.Request { return set("great"+strconv.Itoa(n), long(512)) }
	big := func(key string) api.Request { return set(key, long(420)) }
	del := func(key string) api.Request { return ask(api.OpDelete, key) }
	more := func(key string) api.Request { return ask(api.OpAppend, key, value("+")) }
	count := func(key string) api.Request { return ask(api.OpIncr, key, delta(3), initial(5)) }
	touch := func(key string) api.Request { return ask(api.OpTouch, key, expiry(30)) }
	flush := ask(api.OpFlush, "")
	return [][]api.Request{
		{set("a", "1"), persist(), set("a", "2"), set("b", "1"), persist(), del("a"), set("a", "3"), persist(), set("a", "4")},
		{set("a", "1"), set("k", "1"), persist(), count("a"), more("k"), persist(), touch("a"), ask(api.OpGat, "k"), persist(), del("k"), count("k"), persist()},
		{set("a", "1"), persist(), flush, get("a"), set("a", "2"), set("b", "2"), persist(), flush, set("b", "3"), persist(), del("b")},
		{set("a", "1"), big("b"), get("a"), big("c"), get("a"), set("a", "2"), big("b"), get("c"), more("a"), get("b"), del("a"), persist()},
		{set("a", "1"), set("b", "2"), set("c", "3"), set("d", "4"), great(0), get("a"), set("b", "4"), get("great0"), del("c"), get("d"), great(0), set("a", "5"), great(2)},
		{count("n"), great(1), count("n"), great(2), count("n"), persist(), ask(api.OpDecr, "n", delta(99)), great(1), count("n"), del("n"), great(2), count("n")},
		{great(0), great(1), great(2), great(0), more("great1"), great(3), great(1), persist(), great(2), del("great0"), great(4), great(0), flush, great(1)},
		{great(0), persist(), great(1), persist(), great(2), persist(), set("k", "1"), persist(), great(0), persist(), set("k", "2"), great(3), persist(), del("k"), persist(), set("k", "3"), persist()},
		{set("k", "1"), persist(), great(0), persist(), touch("k"), great(1), persist(), set("k", "2"), great(2), touch("great1"), persist(), more("k"), great(3), del("great3"), persist(), great(4)},
		{set("k", ""), persist(), big("a"), persist(), big("b"), persist(), big("c"), persist(), get("k"), big("a"), big("b"), persist(), get("k"), big("c"), big("a"), persist(), get("k"), big("b"), persist(), del("a"), del("k"), big("c"), persist()},
	}
}

// smallScripts is how many of the scripts are small ones: what was persisted there must hit.
const smallScripts = 5

// P18.9, P1, P2, P3: a crash at each moment of each command of each script, of whose pending writes each choice lives on, where they are at most eight, else many: of each key its latest write that was answered is told, or nothing; what was deleted, overwritten or flushed is not. Then all goes on, behind another crash, too.
func TestCrash(t *testing.T) {
	for i, script := range scripts() {
		for _, pages := range []int{1, 3} {
			t.Run(strconv.Itoa(i)+" pages "+strconv.Itoa(pages), func(t *testing.T) {
				t.Parallel()
				crashes := 0
				for n, done := 0, false; !done; n++ {
					x := newDiary(t, plan{4, 24, 64, pages})
					x.d.Arm(n)
					for i := 0; i < len(script) && !x.d.Dead(); i++ {
						x.do(t, script[i])
					}
					done = !x.d.Dead()
					for k, keep := range keeps(len(x.d.Pending())) {
						y := x.crash(t, keep, i < smallScripts)
						if (k+n)%10 == 1 {
							y.goesOn(t)
						}
						crashes++
					}
				}
				if crashes < 30 && pages == 1 {
					t.Errorf("%d crashes", crashes)
				}
			})
		}
	}
}

// P18.9, P1, P2, P3: the same, as the engine is used on behind the power's going, with what the Ram has.
func TestCrashLater(t *testing.T) {
	for i, script := range scripts() {
		t.Run(strconv.Itoa(i), func(t *testing.T) {
			t.Parallel()
			for n, done := 0, false; !done; n++ {
				x := newDiary(t, plan{4, 24, 64, 2})
				x.d.Arm(n)
				for _, q := range script {
					x.do(t, q)
				}
				done = !x.d.Dead()
				for k, keep := range few(len(x.d.Pending())) {
					y := x.crash(t, keep, i < smallScripts)
					if (k+n)%10 == 1 {
						y.goesOn(t)
					}
				}
			}
		})
	}
}

// P18.9, P1, P2, P3: the same with a disk that fails at each operation, and is used on; then a crash.
func TestCrashBehindFailure(t *testing.T) {
	for i, script := range scripts() {
		t.Run(strconv.Itoa(i), func(t *testing.T) {
			t.Parallel()
			for n, done := 0, false; !done; n += 1 + n/200 {
				x := newDiary(t, plan{4, 24, 64, 2})
				ops := x.d.Ops()
				x.d.Fail(n)
				for _, q := range script {
					x.do(t, q)
				}
				done = x.d.Ops()-ops < n
				for k, keep := range few(len(x.d.Pending())) {
					y := x.crash(t, keep, false)
					if (k+n)%10 == 1 {
						y.goesOn(t)
					}
				}
			}
		})
	}
}

// P18.9, P2: what was answered at each moment is held against each crash: a value that was overwritten, deleted or flushed is told by none of the engines behind, whatever lives on, and whatever is done to the disk behind it.
func TestGoneIsGone(t *testing.T) {
	for _, s := range situations() {
		for _, q := range []api.Request{set("k", "new"), ask(api.OpDelete, "k"), ask(api.OpFlush, ""), ask(api.OpAppend, "k", value("!")), ask(api.OpTouch, "k", expiry(9))} {
			w := s.make(t, "old")
			if a := w.do(t, q, later); a.Status != api.StatusOK {
				continue
			}
			away(t, w)
			for _, keep := range keeps(len(w.d.Pending())) {
				d := w.d.Copy()
				d.Crash(keep)
				x, m := made(t, opened(t, d, 64), 2), w.i.crashed()
				for lap := range 3 {
					a := x.Do(get("k"), later)
					m.asks(t, get("k"), a, later)
					if string(a.Value) == "old" && q.Op != api.OpTouch {
						t.Fatalf("%s: behind %s k is %s", s.name, wished(q), told(a))
					}
					is(t, x.Clean(later), api.OK)
					for i := range 3 {
						x.Do(set("g"+strconv.Itoa(i), long(500+lap)), later)
					}
					x.Do(persist(), later)
				}
			}
		}
	}
}
