package store_test

import (
	"slices"
	"strconv"
	"testing"

	"icehouse/api"
)

// The keys of one finger are such.
func TestKin(t *testing.T) {
	for i, key := range kin {
		if fingerOf(key) != fingerOf(kin[0]) || slices.Index(kin, key) != i {
			t.Errorf("%q has another finger than %q, or is it", key, kin[0])
		}
	}
}

// kinDeed puts, kills or moves one of the kin, if it is there.
func kinDeed(t *testing.T, w *watched, deed int, seq uint64) {
	t.Helper()
	key := kin[deed%3]
	switch deed / 3 {
	case 0:
		ok(t, w.put(t, item(key, int(seq), seq)))
	case 1:
		ok(t, w.kill(t, key, seq))
	case 2:
		if i, _, _ := w.p.look(key); i >= 0 {
			p := w.placed(t, key)
			ok(t, w.move(t, p))
			return
		}
		for w.d.Ops() < w.pd.Ops() {
			w.d.Read(0)
		}
		is(t, w.move(t, at(0, 1, 1, item("none", 1, seq))), api.ErrNone)
	}
}

// P14.2 to P14.5: keys of one finger: found, put, killed, moved, each of three in any order, four deeds long, with nothing there at first and with all of them.
func TestKinDeeds(t *testing.T) {
	for _, there := range []bool{false, true} {
		for n := range 9 * 9 * 9 * 9 {
			w := fresh(t, 4, 24, 4)
			has := map[string]uint64{}
			for i := range 3 {
				if there {
					kinDeed(t, w, i, uint64(i+1))
					has[kin[i]] = uint64(i + 1)
				}
			}
			for i, rest := 0, n; i < 4; i, rest = i+1, rest/9 {
				deed, seq := rest%9, uint64(i+10)
				kinDeed(t, w, deed, seq)
				switch deed / 3 {
				case 0:
					has[kin[deed%3]] = seq
				case 1:
					delete(has, kin[deed%3])
				}
			}
			for _, key := range kin {
				if seq := has[key]; seq > 0 {
					w.has(t, item(key, int(seq), seq))
				} else {
					w.hasNone(t, key)
				}
			}
			if w.s.Len() != len(has) {
				t.Fatalf("Len is %d; asked is %d", w.s.Len(), len(has))
			}
		}
	}
}

// P14.1 to P14.5: each of them found, in each order, behind a crash; then each put, killed, moved.
func TestKinFound(t *testing.T) {
	orders := [][]int{{0, 1, 2, 3}, {3, 2, 1, 0}, {1, 3, 0, 2}, {2, 0, 3, 1}}
	for _, order := range orders {
		for _, again := range orders {
			w := fresh(t, 4, 24, 4)
			for i, k := range order {
				ok(t, w.put(t, item(kin[k], 5, uint64(i+1))))
			}
			ok(t, w.sync(t))
			w = w.crash(t, nil)
			if w.s.Len() != 4 {
				t.Fatalf("Len is %d", w.s.Len())
			}
			for i, k := range order {
				w.has(t, item(kin[k], 5, uint64(i+1)))
			}
			is(t, w.put(t, item("other", 1, 20)), api.ErrFull)
			for i, k := range again {
				ok(t, w.move(t, w.placed(t, kin[k])))
				x := item(kin[again[3-i]], 6, uint64(i+30))
				ok(t, w.put(t, x))
				w.has(t, x)
			}
			for i, k := range again {
				ok(t, w.kill(t, kin[k], uint64(i+40)))
				w.hasNone(t, kin[k])
				if w.s.Len() != 3-i {
					t.Fatalf("Len is %d behind %d Kills", w.s.Len(), i+1)
				}
			}
		}
	}
}

// P14.2 to P14.4: the disk fails at each of the reads of which looking has several: that error, ahead of there being no slot, and the store goes on.
func TestKinReadFails(t *testing.T) {
	w := fresh(t, 8, 64, 3)
	for i, key := range kin[:3] {
		ok(t, w.put(t, item(key, 100, uint64(i+1))))
	}
	for _, key := range kin {
		reads := 0
		for n := 0; ; n++ {
			w.fail(n)
			_, err := w.get(t, key, 0)
			w.fail(-1)
			if err != api.ErrIo {
				break
			}
			reads++
			w.fail(n)
			is(t, w.put(t, item(key, 100, 9)), api.ErrIo)
			w.fail(n)
			is(t, w.kill(t, key, 9), api.ErrIo)
			w.fail(-1)
			if w.s.Degraded() || w.s.Len() != 3 {
				t.Fatalf("degraded %t, Len %d", w.s.Degraded(), w.s.Len())
			}
		}
		// The last one is found first; each record has three sectors.
		if want := map[string]int{kin[2]: 3, kin[1]: 6, kin[0]: 9, kin[3]: 9}[key]; reads != want {
			t.Errorf("of %q there are %d reads; asked are %d", key, reads, want)
		}
	}
	is(t, w.put(t, item(kin[3], 100, 9)), api.ErrFull)
	for i, key := range kin[:3] {
		w.has(t, item(key, 100, uint64(i+1)))
	}
}

// P14.3: of keys of one finger, in number as many as slots, each is found, and of others none.
func TestFingerEmptyKey(t *testing.T) {
	w := fresh(t, 4, 24, 4)
	for i := range 3 {
		ok(t, w.put(t, item(strange, 1, uint64(i+1))))
		w.hasNone(t, "")
		ok(t, w.put(t, item(strange+strconv.Itoa(i), 1, uint64(i+1))))
	}
	is(t, w.kill(t, "", 1), api.ErrRecord)
	w.has(t, item(strange, 1, 3))
}
