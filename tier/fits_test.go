package tier_test

import (
	"strconv"
	"testing"

	"icehouse/api"
)

// fitting are keys and how long their values are, at most, such that all of them fit into a plan, by chapter 25: all records together have at most (segments - 4) times (sectors - 17) sectors.
type fitting struct {
	p    plan
	keys []string
	size int
}

// several are n keys of so many bytes.
func several(n, bytes int) []string {
	var l []string
	for i := range n {
		name := strconv.Itoa(i) + "."
		l = append(l, name+long(bytes)[:bytes-len(name)])
	}
	return l
}

// sectors are those of all records, at most.
func (f fitting) sectors() int {
	n := 0
	for _, key := range f.keys {
		n += sectorsOf(api.Record{Key: []byte(key), Value: []byte(long(f.size))})
	}
	return n
}

// P18.9, P4: as long as what lives fits, and the disk does not fail, what lives hits, however small the memory is, and persist is OK; behind a crash what was persisted, and not written since, hits.
func TestFits(t *testing.T) {
	for i, f := range []fitting{
		{plan{5, 24, 1024, 1}, several(7, 4), 23},
		{plan{5, 34, 1024, 1}, several(1, 250), 512},
		{plan{8, 24, 1024, 1}, several(7, 4), 160},
		{plan{8, 24, 1024, 2}, several(28, 4), 20},
		{plan{5, 64, 1024, 1}, several(2, 250), 512},
		{plan{5, 64, 47, 2}, several(47, 4), 23},
		{plan{16, 24, 1024, 3}, several(7, 50), 500},
		{plan{16, 64, 1024, 4}, several(33, 250), 512},
		{plan{16, 64, 1024, 2}, several(560, 5), 20},
	} {
		t.Run(strconv.Itoa(i), func(t *testing.T) {
			t.Parallel()
			if bound := (f.p.segments - 4) * (f.p.sectors - 17); f.sectors() > bound || len(f.keys) > f.p.slots {
				t.Fatalf("%d sectors don't fit into %d", f.sectors(), bound)
			}
			for seed := range uint64(3) {
				f.run(t, &drawn{10*seed + uint64(i)})
			}
		})
	}
}

// lives tells whether the key has a version that has not expired.
func (x *diary) lives(key string) bool {
	for _, v := range x.m.now[key] {
		if v.expiry == 0 || v.expiry > x.now {
			return true
		}
	}
	return false
}

// run draws commands; safe are the keys that live behind a crash.
func (f fitting) run(t *testing.T, r *drawn) {
	t.Helper()
	x := newDiary(t, f.p)
	safe := map[string]bool{}
	crashes := 0
	for range 5000 {
		q := f.request(r, x)
		key := string(q.Key)
		lived := x.lives(key)
		a := x.do(t, q)
		missed := a.Status == api.StatusNone || a.Status == api.StatusNot || q.Op == api.OpAdd && a.Status == api.StatusOK
		switch {
		case a.Status == api.StatusInternal:
			t.Fatalf("%s is %s", wished(q), told(a))
		case key != "" && lived && missed, key != "" && x.lives(key) && x.do(t, get(key)).Status != api.StatusOK:
			t.Fatalf("%s is %s, and what lived is missed", wished(q), told(a))
		case q.Op == api.OpPersist:
			for _, key := range f.keys {
				safe[key] = x.lives(key)
			}
		case q.Op != api.OpGet && a.Status == api.StatusOK:
			delete(safe, key)
		}
		if q.Op == api.OpFlush {
			clear(safe)
		}
		switch r.below(120) {
		case 0:
			x = x.crash(t, drawnKeep(r, len(x.d.Pending())), false)
			crashes++
			for _, key := range f.keys {
				if safe[key] && len(x.m.safe[key]) > 0 && !x.expired(key) && !x.lives(key) {
					t.Fatalf("%q was persisted, and is missed behind a crash", key)
				}
			}
		case 1:
			x.now += uint32(r.below(9))
		case 2:
			is(t, x.x.Clean(x.now), api.OK)
		case 3:
			is(t, x.x.Sync(), api.OK)
		}
	}
	if g := x.x.Store().Log().Super().Get().Generation; crashes < 20 || int(g) < 3*f.p.segments {
		t.Errorf("%d crashes, generation %d", crashes, g)
	}
}

// request draws a command of which no value gets too long.
func (f fitting) request(r *drawn, x *diary) api.Request {
	key := f.keys[r.below(len(f.keys))]
	room := f.size
	for _, v := range x.m.now[key] {
		room = min(room, f.size-len(v.value))
	}
	wish := []uint32{0, 0, 0, 0, 0, 20, api.Month}[r.below(7)]
	q := ask(api.OpGet, key, flags(uint32(r.below(9))), expiry(wish))
	switch n := r.below(40); {
	case n < 10:
	case n < 24:
		q.Op = []int{api.OpSet, api.OpSet, api.OpSet, api.OpAdd, api.OpReplace}[r.below(5)]
		q.Value = []byte(long(r.below(f.size + 1)))
	case n < 28:
		q.Op = []int{api.OpAppend, api.OpPrepend}[r.below(2)]
		q.Value = []byte(long(r.below(max(0, room) + 1)))
	case n < 30:
		q.Op = []int{api.OpIncr, api.OpDecr}[r.below(2)]
		q.Expiry = api.NoInitial
	case n < 34:
		q.Op = []int{api.OpTouch, api.OpGat}[r.below(2)]
	case n < 37:
		q.Op = api.OpDelete
	case n < 39:
		return persist()
	default:
		if r.below(10) == 0 {
			return ask(api.OpFlush, "")
		}
	}
	return q
}
