package recover_test

import (
	"math"
	"slices"
	"strings"
	"testing"

	"icehouse/api"
	"icehouse/recover"
)

// kin are keys of one finger.
var kin = []string{"nihh", "tcgpub", "osbmke", "hhopwe"}

// P16.3: all lists of four records of two keys and two sequences, items and tombstones, in one segment and in two, of which the first or the second is the elder; with nothing flushed, one sequence, and both.
func TestLastWords(t *testing.T) {
	t.Parallel()
	lot := func(i int) func(sector int, key string, seq uint64) api.Placed {
		return []func(sector int, key string, seq uint64) api.Placed{put, killed}[i]
	}
	for n := range 8 * 8 * 8 * 8 {
		var l []api.Placed
		for i, m := 0, n; i < 4; i++ {
			l = append(l, lot(m&1)(i+1, string('a'+rune(m>>1&1)), uint64(m>>2&1+1)))
			m /= 8
		}
		for _, cut := range []int{1, 2, 4} {
			for turned := range 2 {
				s := make([]api.Scan, 4)
				s[2*turned] = scan(2, slices.Clone(l[:cut])...)
				s[2-2*turned] = scan(3, slices.Clone(l[cut:])...)
				for flush := range uint64(3) {
					judge(t, api.Super{Segments: 4, Sectors: 24, Generation: 3, Flush: flush}, s)
				}
			}
		}
	}
}

// known is what is known where three generations were given.
var known = api.Super{Segments: 4, Sectors: 24, Generation: 3}

// P16.3: the last word is the record of the greatest Seq, wherever it stands; of several the one that comes last: in one segment, and in two.
func TestSeq(t *testing.T) {
	one := func(l ...api.Placed) []api.Scan { return []api.Scan{{}, {}, scan(2, l...), {}} }
	two := func(a, b api.Placed) []api.Scan { return []api.Scan{{}, scan(3, b), {}, scan(1, a)} }
	for i, x := range []struct {
		l      []api.Scan
		gone   int
		tombs  int
		lives  int // the sector of what lives; 0, if nothing does
		counts int
	}{
		{one(put(1, "a", 1), put(2, "a", 2)), 1, 0, 2, 1},
		{one(put(1, "a", 2), put(2, "a", 1)), 1, 0, 1, 1},
		{one(put(1, "a", 2), put(2, "a", 2)), 1, 0, 2, 1},
		{one(put(1, "a", 2), put(2, "a", 2), put(3, "a", 2)), 2, 0, 3, 1},
		{one(put(1, "a", 2), killed(2, "a", 2)), 1, 1, 0, 1},
		{one(killed(1, "a", 2), put(2, "a", 2)), 0, 1, 2, 1},
		{one(put(1, "a", 1), killed(2, "a", 2)), 1, 1, 0, 1},
		{one(put(1, "a", 2), killed(2, "a", 1)), 0, 1, 1, 1},
		{one(killed(1, "a", 2), put(2, "a", 1)), 1, 1, 0, 1},
		{one(killed(1, "a", 2), put(2, "a", 3)), 0, 1, 2, 1},
		{one(killed(1, "a", 2), killed(2, "a", 3)), 0, 2, 0, 1},
		{one(put(1, "a", math.MaxUint64), put(2, "a", 1)), 1, 0, 1, 1},
		{two(put(5, "a", 1), put(6, "a", 2)), 1, 0, 6, 2},
		{two(put(5, "a", 2), put(6, "a", 1)), 1, 0, 5, 2},
		{two(put(5, "a", 2), put(6, "a", 2)), 1, 0, 6, 2},
		{two(put(5, "a", 2), killed(6, "a", 2)), 1, 1, 0, 2},
		{two(killed(5, "a", 2), put(6, "a", 2)), 0, 1, 6, 2},
		{two(put(5, "a", 2), killed(6, "a", 1)), 0, 1, 5, 2},
		{two(killed(5, "a", 2), put(6, "a", 1)), 1, 1, 0, 2},
	} {
		var keys []string
		if x.lives > 0 {
			keys = append(keys, "a")
		}
		live := lives(t, known, x.l, api.Report{Segments: x.counts, Items: len(keys), Tombs: x.tombs, Gone: x.gone}, keys...)
		if x.lives > 0 && live[0].Address.Sector != x.lives {
			t.Errorf("case %d: it lives at %v", i, live[0].Address)
		}
	}
}

// P16.3: a Seq at what is known as Flush is void, one more is not; a last word that is void brings nothing elder back, and a tombstone need not be above it.
func TestFlush(t *testing.T) {
	for _, flush := range []uint64{0, 1, 2, 100, 1<<63 - 1, math.MaxUint64 - 1, math.MaxUint64} {
		x := known
		x.Flush = flush
		var l []api.Placed
		var keys []string
		for i, seq := range []uint64{flush - 1, flush, flush + 1, 1, math.MaxUint64} {
			if seq == 0 {
				continue
			}
			key := string('a' + rune(i))
			l = append(l, put(i+1, key, seq))
			if seq > flush {
				keys = append(keys, key)
			}
		}
		lives(t, x, []api.Scan{scan(1, l...), {}, {}, {}}, api.Report{Segments: 1, Items: len(keys), Gone: len(l) - len(keys)}, keys...)
	}
	x := known
	x.Flush = 5
	l := []api.Scan{scan(1, put(1, "a", 6), put(2, "b", 4), killed(3, "c", 3), put(4, "c", 5)), scan(2, put(1, "b", 5), killed(2, "a", 4), killed(3, "d", 7), put(4, "d", 6)), {}, {}}
	lives(t, x, l, api.Report{Segments: 2, Items: 1, Tombs: 3, Gone: 4}, "a")
}

// wrong are records that may not be, of that key.
func wrong(key string) []api.Record {
	good := api.Record{Kind: 1, Seq: 50, Key: []byte(key), Value: []byte("x")}
	tomb := api.Record{Kind: 2, Seq: 50, Key: []byte(key)}
	var l []api.Record
	add := func(r api.Record, do func(r *api.Record)) { do(&r); l = append(l, r) }
	for _, kind := range []int{math.MinInt, -1, 0, 3, 255, 257, 258, 1<<16 + 1, 1<<32 + 1, math.MaxInt} {
		add(good, func(r *api.Record) { r.Kind = kind })
		add(tomb, func(r *api.Record) { r.Kind = kind })
	}
	for _, r := range []api.Record{good, tomb} {
		add(r, func(r *api.Record) { r.Seq = 0 })
		add(r, func(r *api.Record) { r.Key = nil })
		add(r, func(r *api.Record) { r.Key = []byte{} })
		add(r, func(r *api.Record) { r.Key = make([]byte, 251) })
		add(r, func(r *api.Record) { r.Key = make([]byte, 1<<16+1) })
		add(r, func(r *api.Record) { r.Value = make([]byte, 513) })
		add(r, func(r *api.Record) { r.Value = make([]byte, 1<<16) })
	}
	add(tomb, func(r *api.Record) { r.Flags = 1 })
	add(tomb, func(r *api.Record) { r.Expiry = 1 })
	add(tomb, func(r *api.Record) { r.Value = []byte{0} })
	return append(l, api.Record{})
}

// P16.3: records that may not be are let out, wherever they stand: they outdo nothing, and are told as nothing.
func TestWrongRecords(t *testing.T) {
	for _, r := range wrong("a") {
		for at := range 4 {
			l := []api.Placed{put(1, "a", 1), put(2, "b", 2), killed(3, "c", 3)}
			l = slices.Insert(l, at, api.Placed{Address: api.Address{Sector: 9}, Record: r})
			lives(t, known, []api.Scan{{}, scan(3, l...), {}, {}}, api.Report{Segments: 1, Items: 2, Tombs: 1}, "a", "b")
		}
	}
	// Segments with nothing but such ones count.
	var l []api.Placed
	for _, r := range wrong("a") {
		l = append(l, api.Placed{Record: r})
	}
	lives(t, known, []api.Scan{scan(1, l...), scan(2, l...), {}, scan(3, l...)}, api.Report{Segments: 3})
}

// P16.3: what stands in segments that do not count plays no part, whatever its Seq is.
func TestNotCounted(t *testing.T) {
	x := api.Super{Segments: 6, Sectors: 24, Retired: 5, Generation: 8}
	l := []api.Scan{scan(5, killed(1, "a", 90)), scan(9, put(1, "a", 91)), scan(7, put(1, "a", 1), put(2, "b", 2)), scan(0, put(1, "b", 92)), scan(7, killed(1, "b", 93)), scan(1, put(1, "c", 94))}
	live := lives(t, x, l, api.Report{Segments: 1, Items: 2}, "a", "b")
	if live[0].Record.Seq != 1 || live[1].Record.Seq != 2 {
		t.Errorf("%v live", live)
	}
}

// P16.3: the order is that of the generations, not that of the numbers nor of the sequences; in a segment it is the scan's.
func TestOrder(t *testing.T) {
	x := api.Super{Segments: 5, Sectors: 24, Generation: 40}
	l := []api.Scan{scan(30, put(9, "e", 1), put(1, "a", 9)), scan(7, put(1, "z", 20)), scan(31, put(1, "m", 5)), {}, scan(12, put(3, "x", 2), put(2, "c", 30))}
	lives(t, x, l, api.Report{Segments: 4, Items: 6}, "z", "x", "c", "e", "a", "m")
}

// P16.3: an address' Segment is the scan's number, its Sector and its Generation are as they are said, whatever they are.
func TestAddresses(t *testing.T) {
	for _, sector := range []int{math.MinInt, -1, 0, 1, 24, math.MaxInt} {
		for _, generation := range []uint64{0, 1, 2, 3, 9, math.MaxUint64} {
			for _, segment := range []int{math.MinInt, -1, 0, 1, 2, 3, 4, math.MaxInt} {
				l := []api.Scan{{}, {}, {}, {}}
				for i := range 3 {
					a := put(0, string('a'+rune(i)), uint64(i+1))
					a.Address = api.Address{Segment: segment, Generation: generation, Sector: sector}
					l[3-i] = api.Scan{Generation: uint64(i + 1), Used: 9, Records: []api.Placed{a}}
				}
				for i, p := range lives(t, known, l, api.Report{Segments: 3, Items: 3}, "a", "b", "c") {
					if p.Address != (api.Address{Segment: 3 - i, Generation: generation, Sector: sector}) {
						t.Fatalf("it lives at %v", p.Address)
					}
				}
			}
		}
	}
}

// P16.3: keys are told apart byte by byte: short and long ones, of whatever bytes, that begin or hash alike.
func TestKeys(t *testing.T) {
	long := strings.Repeat("k", 249)
	keys := append([]string{"a", "b", "aa", "ab", "A", "\x00", "\x00\x00", "\xff", "\xfe", "\xef\xbf\xbd", "\xff\xff", "\n", long, long + "k", long + "l", "l" + long}, kin...)
	var first, second []api.Placed
	for i, key := range keys {
		first = append(first, put(i+1, key, uint64(i+1)))
		if i%2 == 0 {
			second = append(second, put(i+1, key, 100))
		}
		if i%3 == 0 {
			second = append(second, killed(i+1, key, 101))
		}
	}
	var live []string
	for i := range keys {
		if i%2 > 0 && i%3 > 0 {
			live = append(live, keys[i])
		}
	}
	for i := range keys {
		if i%2 == 0 && i%3 > 0 {
			live = append(live, keys[i])
		}
	}
	lives(t, known, []api.Scan{scan(1, first...), scan(2, second...), {}, {}}, api.Report{Segments: 2, Items: len(live), Tombs: 7, Gone: len(first) + len(second) - 7 - len(live)}, live...)
}

// P16.3: an item is told field by field; its expiry plays no part.
func TestFields(t *testing.T) {
	for _, n := range []uint32{0, 1, 1 << 31, math.MaxUint32} {
		for _, size := range []int{0, 1, 511, 512} {
			p := put(4, "a", math.MaxUint64)
			p.Record.Flags, p.Record.Expiry = n, math.MaxUint32-n
			p.Record.Value = []byte(strings.Repeat("v", size))
			live := lives(t, known, []api.Scan{{}, scan(3, p), {}, {}}, api.Report{Segments: 1, Items: 1}, "a")
			if !sameRecord(live[0].Record, p.Record) {
				t.Errorf("it is %v; asked is %v", live[0].Record, p.Record)
			}
		}
	}
}

// R3, P16.3: where all that is handed in shares memory what is told does not.
func TestShared(t *testing.T) {
	b := []byte("abcdefgh")
	var l []api.Placed
	for i := range 5 {
		l = append(l, api.Placed{Record: api.Record{Kind: 1, Seq: uint64(i + 1), Key: b[i : i+2], Value: b[i : i+3]}})
	}
	lives(t, known, []api.Scan{{}, {}, {}, {Generation: 2, Used: 6, Records: l}}, api.Report{Segments: 1, Items: 5}, "ab", "bc", "cd", "de", "ef")
}

// P16.3: long lists, drawn with fixed seeds, in which each key has many records.
func TestDrawn(t *testing.T) {
	for seed := range uint64(60) {
		r := &drawn{seed}
		x := api.Super{Segments: 4 + r.below(13), Sectors: 24 + r.below(41), Retired: uint64(r.below(4))}
		x.Generation = x.Retired + uint64(r.below(30))
		x.Flush = uint64(r.below(200))
		keys := 1 + r.below(60)
		l := make([]api.Scan, x.Segments)
		for i := range l {
			var records []api.Placed
			for range r.below(80) {
				key := string(rune('a' + r.below(keys)))
				make := []func(sector int, key string, seq uint64) api.Placed{put, put, killed}[r.below(3)]
				records = append(records, make(r.below(99), key, uint64(r.below(400))))
			}
			l[i] = scan(uint64(r.below(34)), records...)
			l[i].Used = r.below(99)
		}
		ringOf(t, x, l)
		judge(t, x, l)
	}
}

// R1, P16.3: a great many records end soon, of one key and of many.
func TestMany(t *testing.T) {
	const n = 100000
	for _, keys := range []int{1, 1000, n} {
		var l []api.Placed
		for i := range n {
			key := "key " + number(uint64(i%keys))
			l = append(l, api.Placed{Record: api.Record{Kind: 1, Seq: uint64(i + 1), Key: []byte(key)}})
		}
		live, report, err := recover.Judge(known, []api.Scan{{}, {Generation: 1, Records: l}, {}, {}})
		if err != api.OK || len(live) != keys || report != (api.Report{Segments: 1, Items: keys, Gone: n - keys}) || live[0].Record.Seq != uint64(n-keys+1) {
			t.Errorf("%d live, %v, error %d", len(live), report, err)
		}
	}
}
