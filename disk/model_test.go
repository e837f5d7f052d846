package disk_test

import (
	"math/rand"
	"slices"
	"testing"

	"icehouse/api"
	"icehouse/disk"
)

// done is a write that a model has done since all was safe.
type done struct {
	sector int
	b      api.Block
}

// model is what the chapter says of a disk, as plainly as can be: what is safe, and the writes behind it.
type model struct {
	safe        []api.Block
	writes      []done
	arm, fail   int // how many more, if set
	armed, fall bool
	gone        bool
	ops         int
}

// holds is the last write of a sector, or what is safe of it.
func (m *model) holds(i int) api.Block {
	for _, w := range slices.Backward(m.writes) {
		if w.sector == i {
			return w.b
		}
	}
	return m.safe[i]
}

// operation tells an operation's error, counting it.
func (m *model) operation(sector int, reads bool) api.Errno {
	if m.gone {
		return api.ErrDead
	}
	if sector < 0 || sector >= len(m.safe) {
		return api.ErrArg
	}
	if m.fall && m.fail == 0 {
		m.fall = false
		return api.ErrIo
	}
	if m.fall {
		m.fail--
	}
	if !reads && m.armed && m.arm == 0 {
		m.gone = true
		return api.ErrDead
	}
	if !reads && m.armed {
		m.arm--
	}
	m.ops++
	return api.OK
}

// apply makes the writes that live on safe; there are none behind that.
func (m *model) apply(lives func(place int) bool) {
	for k, w := range m.writes {
		if lives(k) {
			m.safe[w.sector] = w.b
		}
	}
	m.writes = nil
}

// walk is a disk and its model, and what chooses their steps.
type walk struct {
	t *testing.T
	d *disk.Disk
	m *model
	r *rand.Rand
}

// step does one thing to both.
func (w *walk) step() {
	sector := w.r.Intn(len(w.m.safe)+2) - 1
	switch k := w.r.Intn(40); {
	case k < 20:
		b := block(w.r.Intn(250))
		err := w.m.operation(sector, false)
		if err == api.OK {
			w.m.writes = append(w.m.writes, done{sector, b})
		}
		is(w.t, "Write", w.d.Write(sector, b), err)
	case k < 30:
		if err := w.m.operation(sector, true); err != api.OK {
			refuses(w.t, "walk", w.d, sector, err)
		} else {
			holds(w.t, "walk", w.d, sector, w.m.holds(sector))
		}
	case k < 34:
		err := w.m.operation(0, false)
		if err == api.OK {
			w.m.apply(func(int) bool { return true })
		}
		is(w.t, "Sync", w.d.Sync(), err)
	case k < 36:
		w.arm(w.r.Intn(12) - 2)
	case k < 38:
		w.fail(w.r.Intn(12) - 2)
	case k < 39 || w.m.gone:
		w.crash()
	default:
		left := w.d
		w.d = left.Copy()
		left.Crash(nil)
	}
}

func (w *walk) arm(n int) {
	want := api.ErrDead
	if !w.m.gone {
		want, w.m.arm, w.m.armed = api.OK, n, n >= 0
	}
	is(w.t, "Arm", w.d.Arm(n), want)
}

func (w *walk) fail(n int) {
	want := api.ErrDead
	if !w.m.gone {
		want, w.m.fail, w.m.fall = api.OK, n, n >= 0
	}
	is(w.t, "Fail", w.d.Fail(n), want)
}

func (w *walk) crash() {
	keep := make([]bool, w.r.Intn(len(w.m.writes)+3))
	for i := range keep {
		keep[i] = w.r.Intn(2) == 0
	}
	w.m.apply(func(place int) bool { return place < len(keep) && keep[place] })
	w.m.armed, w.m.fall, w.m.gone = false, false, false
	is(w.t, "Crash", w.d.Crash(keep), api.OK)
}

// agree fails, unless both tell the same; the sectors are read of a copy, so that the walk goes on as if they had not been.
func (w *walk) agree() {
	w.t.Helper()
	var pending []int
	for _, x := range w.m.writes {
		pending = append(pending, x.sector)
	}
	pends(w.t, "walk", w.d, pending...)
	counts(w.t, "walk", w.d, w.m.ops)
	if w.d.Dead() != w.m.gone || w.d.Len() != len(w.m.safe) {
		w.t.Errorf("Dead %v, Len %d", w.d.Dead(), w.d.Len())
	}
	if w.m.gone {
		return
	}
	c := w.d.Copy()
	is(w.t, "Fail of a copy", c.Fail(-1), api.OK)
	for i := range w.m.safe {
		holds(w.t, "copy", c, i, w.m.holds(i))
	}
}

// P2.1 to P2.6: whatever is done, the disk tells what the chapter's words say.
func TestWalks(t *testing.T) {
	for seed := range int64(60) {
		r := rand.New(rand.NewSource(seed))
		n := 1 + r.Intn(6)
		w := &walk{t: t, d: fresh(t, n), m: &model{safe: make([]api.Block, n)}, r: r}
		for range 400 {
			w.step()
			w.agree()
		}
		if t.Failed() {
			t.Fatalf("seed %d", seed)
		}
	}
}

// P2.7: wherever the power goes, and whatever lives on, what was synced is there, and each sector holds what it held at some time since.
func TestEachSectorHoldsWhatItHeld(t *testing.T) {
	const sectors = 3
	for at := range 9 {
		for mask := range 1 << 5 {
			d := fresh(t, sectors)
			is(t, "Arm", d.Arm(at), api.OK)
			var held [sectors][]api.Block
			for i := range held {
				held[i] = []api.Block{{}}
			}
			for k := 0; k < 20 && !d.Dead(); k++ {
				if k%4 == 3 {
					if d.Sync() == api.OK {
						for i := range held {
							held[i] = held[i][len(held[i])-1:]
						}
					}
				} else if i := k * k % sectors; d.Write(i, block(k)) == api.OK {
					held[i] = append(held[i], block(k))
				}
			}
			keep := make([]bool, 5)
			for i := range keep {
				keep[i] = mask>>i&1 == 1
			}
			pending := len(d.Pending())
			is(t, "Crash", d.Crash(keep), api.OK)
			for i := range held {
				b, err := d.Read(i)
				if err != api.OK || !slices.Contains(held[i], b) {
					t.Errorf("armed with %d, keeping %v: sector %d holds what it did not, error %d", at, keep, i, err)
				}
				if all := mask&(1<<pending-1) == 1<<pending-1; all && b != held[i][len(held[i])-1] {
					t.Errorf("armed with %d, all kept: sector %d has lost its last write", at, i)
				}
				if none := mask&(1<<pending-1) == 0; none && b != held[i][0] {
					t.Errorf("armed with %d, none kept: sector %d holds what is not safe", at, i)
				}
			}
		}
	}
}

// P2.1, P2.2: a disk of the most sectors, each with bytes of its own, behind a sync and a crash.
func TestTheMostSectors(t *testing.T) {
	d := fresh(t, 2048)
	for i := range 2048 {
		is(t, "Write", d.Write(i, numbered(i)), api.OK)
	}
	is(t, "Sync", d.Sync(), api.OK)
	for i := range 2048 {
		is(t, "Write", d.Write(2047-i, api.Block{}), api.OK)
	}
	is(t, "Crash", d.Crash(slices.Repeat([]bool{true, false}, 1024)), api.OK)
	for i := range 2048 {
		want := numbered(i)
		if i%2 == 1 {
			want = api.Block{}
		}
		holds(t, "behind the crash", d, i, want)
	}
}

// numbered answers bytes that say a sector's number.
func numbered(i int) api.Block {
	return api.Block{0: 1, 1: byte(i >> 8), 63: byte(i)}
}
