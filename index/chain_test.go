package index_test

import (
	"testing"

	"icehouse/api"
)

// families are fingers that may meet in one chain, however fingers are laid to chains: equal low bits, equal high bits, equal rests of each number about the slots.
func families() [][]uint32 {
	var l [][]uint32
	for _, step := range []uint32{1, 2, 3, 31, 64, 127, 256, 509, 1009, 1021, 1023, 1024, 1025, 1031, 2047, 2048, 2049, 4096, 1 << 16, 1<<16 + 1, 1 << 20, 1 << 22, 1 << 24, 1 << 29} {
		for _, first := range []uint32{0, 5, topFinger} {
			var f []uint32
			for i := range uint32(8) {
				f = append(f, first+i*step)
			}
			l = append(l, f)
		}
	}
	return l
}

// P10.2, P10.4: fingers that meet in one chain: each is found alone, whichever of them goes.
func TestOneChain(t *testing.T) {
	for _, fingers := range families() {
		for gone := range fingers {
			var l []entry
			for i, f := range fingers {
				l = append(l, entry{f, at(i, uint64(i), 1)})
			}
			w := of(t, len(fingers), l...)
			w.same(t)
			w.remove(t, l[gone], api.OK)
			w.same(t)
			w.remove(t, l[gone], api.ErrNone)
			w.add(t, l[gone], api.OK)
			w.same(t)
			w.drop(t, uint64(gone), 1)
			w.same(t)
			w.add(t, entry{l[gone].finger, at(99, 99, 99)}, api.OK)
			w.same(t)
		}
	}
}

// P10.2: one finger with many addresses: each of them goes, first, last and between, and comes again as the last.
func TestOneFinger(t *testing.T) {
	for _, finger := range []uint32{0, 1, 1 << 31, topFinger} {
		var l []entry
		for i := range 9 {
			l = append(l, entry{finger, at(i%3, uint64(i/3), i)})
		}
		for i := range l {
			for j := range l {
				w := of(t, len(l), l...)
				w.same(t)
				w.remove(t, l[i], api.OK)
				w.same(t)
				if i != j {
					w.remove(t, l[j], api.OK)
					w.same(t)
					w.add(t, l[j], api.OK)
				}
				w.add(t, l[i], api.OK)
				w.same(t)
			}
		}
	}
}

// P10.2: one finger fills the whole index; many fingers have one address.
func TestFilledByOne(t *testing.T) {
	var fingers, addresses []entry
	for i := range api.MaxSlots {
		fingers = append(fingers, entry{uint32(i) * 4194303, at(1, 1, 1)})
		addresses = append(addresses, entry{9, at(i, 1, -i)})
	}
	for _, l := range [][]entry{fingers, addresses} {
		w := of(t, api.MaxSlots, l...)
		w.same(t)
		w.add(t, entry{9, at(-5, 1, 1)}, api.ErrFull)
		for i, e := range l {
			if i%2 == 0 {
				w.remove(t, e, api.OK)
				w.counts(t)
			}
		}
		w.same(t)
		for i, e := range l {
			if i%4 == 0 {
				w.add(t, e, api.OK)
			}
		}
		w.same(t)
		w.drop(t, 1, api.MaxSlots*3/4)
		w.same(t)
		for i := range l {
			w.add(t, l[len(l)-1-i], api.OK)
		}
		w.same(t)
	}
}

// P10.2: an entry that was there once is not there, and comes back as the last.
func TestOnce(t *testing.T) {
	a, b, c := entry{1, at(0, 1, 1)}, entry{1, at(0, 1, 2)}, entry{2, at(0, 1, 3)}
	w := of(t, 3, a, b, c)
	w.remove(t, a, api.OK)
	w.remove(t, a, api.ErrNone)
	w.same(t)
	w.add(t, a, api.OK) // b c a
	w.same(t)
	w.drop(t, 1, 3)
	for _, e := range []entry{a, b, c} {
		w.remove(t, e, api.ErrNone)
	}
	w.same(t)
	w.add(t, c, api.OK)
	w.add(t, b, api.OK)
	w.add(t, a, api.OK)
	w.same(t)
}

// P10.3: generations of none, of one, of all; 0 is one as any other; which entries go is told by each set of places, at the ends and between, in chains and in the order of all.
func TestDrop(t *testing.T) {
	const entries = 6
	for set := range 1 << entries {
		for _, goes := range []uint64{0, 1, topGeneration} {
			var l []entry
			n := 0
			for i := range entries {
				g := goes + 1
				if set>>i&1 == 1 {
					g = goes
					n++
				}
				// Two fingers by turns, and a third in the same chain as the first.
				l = append(l, entry{[]uint32{3, 4, 3 + 1024}[i%3], at(i, g, int(goes))})
			}
			w := of(t, entries, l...)
			w.drop(t, goes+2, 0)
			w.same(t)
			w.drop(t, goes, n)
			w.same(t)
			w.drop(t, goes, 0)
			w.same(t)
			for i := range n {
				w.add(t, entry{3, at(50+i, 9, 9)}, api.OK)
			}
			w.add(t, entry{3, at(70, 9, 9)}, api.ErrFull)
			w.same(t)
			w.drop(t, goes+1, entries-n)
			w.same(t)
		}
	}
}

// P10.3: Drop asks for the Generation alone, whole, not for the other numbers.
func TestDropField(t *testing.T) {
	w := of(t, 9,
		entry{5, at(1, 2, 3)}, entry{2, at(5, 1, 5)}, entry{5, at(5, 5, 5)}, entry{1, at(0, 5+1<<32, 5)},
		entry{0, at(0, 5, 0)}, entry{0, at(5, 0, 5)}, entry{topFinger, at(-5, 5+1<<63, -5)}, entry{9, at(-9, 5, -9)})
	w.drop(t, 5, 3)
	w.same(t)
	w.drop(t, 5+1<<32, 1)
	w.same(t)
	w.drop(t, 0, 1)
	w.same(t)
	w.drop(t, topGeneration, 0)
	w.same(t)
}

// P10.3: of an index without entries nothing goes.
func TestDropNone(t *testing.T) {
	w := of(t, 4)
	for _, g := range []uint64{0, 1, topGeneration} {
		w.drop(t, g, 0)
	}
	w.same(t)
}
