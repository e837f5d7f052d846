package tier_test

import (
	"math"
	"strconv"
	"testing"

	"icehouse/api"
)

// mix says how commands are drawn.
type mix struct {
	keys, size int  // how many keys there are, and how long values are, at most
	flush      bool // whether all is flushed now and then
}

// request draws a command, with a token that its key may have.
func (m mix) request(r *drawn, now uint32, token func(key string) uint64) api.Request {
	key := "k" + strconv.Itoa(r.below(m.keys))
	if r.below(6) == 0 {
		key = kin[r.below(len(kin))]
	}
	q := ask(0, key, value(long(r.below(m.size+1))), flags(uint32(r.below(3))))
	q.Op = []int{api.OpGet, api.OpGet, api.OpGet, api.OpSet, api.OpSet, api.OpSet, api.OpAdd, api.OpReplace, api.OpDelete, api.OpIncr, api.OpDecr, api.OpAppend, api.OpPrepend, api.OpTouch, api.OpGat}[r.below(15)]
	switch q.Op {
	case api.OpSet, api.OpReplace, api.OpDelete, api.OpAppend, api.OpPrepend, api.OpIncr, api.OpDecr:
		if r.below(3) == 0 {
			q.Cas = token(key) + uint64(r.below(8)/7)
		}
	}
	if q.Op == api.OpAppend || q.Op == api.OpPrepend {
		q.Value = q.Value[:min(len(q.Value), r.below(40))]
	}
	if r.below(4) == 0 {
		q.Value = decimal(uint64(r.below(1000)))
	}
	q.Expiry = []uint32{0, 0, 0, 0, 1, 5, 60, now + 3000000, api.Month}[r.below(9)]
	q.Delta, q.Initial = uint64(r.below(50)), uint64(r.below(2000))
	if r.below(20) == 0 {
		q.Expiry, q.Delta = api.NoInitial, math.MaxUint64
	}
	switch r.below(60) {
	case 0, 1, 2:
		return persist()
	case 3:
		if m.flush && r.below(4) == 0 {
			return ask(api.OpFlush, "", expiry(uint32(r.below(8)/7)))
		}
	case 4:
		return ask([]int{api.OpStat, api.OpNoop, api.OpVersion, api.OpQuit}[r.below(4)], "")
	case 5:
		return ask(q.Op, long(251), bad(r.below(2)))
	case 6:
		q.Value = []byte(long(513))
	}
	return q
}

// kin are keys of one finger.
var kin = []string{"nihh", "tcgpub", "osbmke", "hhopwe"}

// drawnKeep draws which of n pending writes live on.
func drawnKeep(r *drawn, n int) []bool {
	most := []int{1, 2, 8, 1 << 20}[r.below(4)]
	return choose(n+r.below(2), func(int) bool { return r.below(most) > 0 })
}

// P18.2 to P18.9, P6: long runs of all commands, crashes and recoveries, drawn with fixed seeds, against a plain model that is lists alone, in which the log goes round many times.
func TestRuns(t *testing.T) {
	for i, x := range []struct {
		p plan
		m mix
	}{
		{plan{4, 24, 64, 1}, mix{6, 60, true}},
		{plan{4, 24, 64, 2}, mix{10, 512, true}},
		{plan{4, 24, 5, 2}, mix{12, 200, false}},
		{plan{5, 31, 16, 3}, mix{20, 400, true}},
		{plan{8, 64, 1024, 6}, mix{80, 300, true}},
		{plan{6, 24, 200, 20}, mix{40, 512, false}},
		{plan{16, 24, 20, 4}, mix{40, 250, false}},
	} {
		t.Run(strconv.Itoa(i), func(t *testing.T) {
			t.Parallel()
			for seed := range uint64(4) {
				r := &drawn{100*seed + uint64(i)}
				w := fresh(t, x.p)
				now, crashes := uint32(0), 0
				token := func(key string) uint64 {
					for _, v := range w.i.now[key] {
						return v.cas
					}
					return 9
				}
				for n := range 3000 {
					w.do(t, x.m.request(r, now, token), now)
					switch r.below(80) {
					case 0:
						w.crash(t, drawnKeep(r, len(w.p.pending)))
						crashes++
					case 1, 2, 3, 4:
						now += uint32(r.below(4))
					case 5:
						w.clean(t, now)
					case 6:
						w.sync(t)
					}
					if n%40 == 0 {
						w.lies(t, now)
					}
				}
				w.lies(t, math.MaxUint32)
				if laps := int(w.p.generation) / x.p.segments; crashes < 15 || laps < 6 {
					t.Errorf("seed %d: %d crashes, %d laps", seed, crashes, laps)
				}
			}
		})
	}
}

// P18.9, P1, P2, P3, P6: long runs of all commands with a disk that fails, or whose power goes, at any operation, with crashes and recoveries, by the answers alone: what is told is what may be.
func TestRunsWithFailures(t *testing.T) {
	for seed := range uint64(24) {
		t.Run(strconv.Itoa(int(seed)), func(t *testing.T) {
			t.Parallel()
			r := &drawn{seed}
			p := plan{4 + int(seed)%3, 24 + int(seed)%8, []int{64, 1024, 7}[seed%3], 1 + int(seed)%4}
			m := mix{6 + int(seed)%9, []int{60, 200, 512}[seed/3%3], true}
			x := newDiary(t, p)
			crashes, hits := 0, 0
			for range 4000 {
				switch r.below(100) {
				case 0, 1:
					x.d.Fail(r.below(60))
				case 2:
					x.d.Arm(r.below(40))
				case 3, 4, 5:
					x.now += uint32(r.below(3))
				case 6:
					x.x.Clean(x.now)
				case 7:
					x.x.Sync()
				}
				token := func(key string) uint64 {
					for _, v := range x.m.now[key] {
						return v.cas
					}
					return 9
				}
				a := x.do(t, m.request(r, x.now, token))
				if a.Status == api.StatusOK {
					hits++
				}
				if (x.x.Store().Degraded() || x.d.Dead()) && r.below(6) == 0 || r.below(150) == 0 {
					x = x.crash(t, drawnKeep(r, len(x.d.Pending())), false)
					crashes++
				}
			}
			if g := x.x.Store().Log().Super().Get().Generation; crashes < 40 || hits < 1000 || g < 20 {
				t.Errorf("%d crashes, %d answers that are OK, generation %d", crashes, hits, g)
			}
		})
	}
}
