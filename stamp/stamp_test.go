package stamp_test

import (
	"bytes"
	"math"
	"testing"

	"icehouse/api"
	"icehouse/stamp"
)

// sector is a sector of just those bytes, be it stamped or not: what it says of itself, its two bytes that should be noughts, and what stands behind.
func sector(generation uint64, position uint32, fill, two uint16, behind ...byte) api.Block {
	var b api.Block
	for i := range 8 {
		b[i] = byte(generation >> (56 - 8*i))
	}
	for i := range 4 {
		b[8+i] = byte(position >> (24 - 8*i))
	}
	b[12], b[13] = byte(fill>>8), byte(fill)
	b[14], b[15] = byte(two>>8), byte(two)
	for i, x := range behind {
		b[16+i] = x
	}
	return b
}

// run is n bytes, none of them a nought, and most of them unlike their neighbours.
func run(n int) []byte {
	out := make([]byte, n)
	for i := range out {
		out[i] = byte(i%251 + 1)
	}
	return out
}

// packs fails, unless Pack answers that sector.
func packs(t *testing.T, generation uint64, position uint32, payload []byte, want api.Block) {
	t.Helper()
	got, err := stamp.Pack(generation, position, payload)
	if err != api.OK || got != want {
		t.Errorf("Pack(%d, %d, %d bytes): error %d, % x, not % x", generation, position, len(payload), err, got, want)
	}
}

// refuses fails, unless Pack answers that error, and a sector of noughts.
func refuses(t *testing.T, generation uint64, position uint32, payload []byte, want api.Errno) {
	t.Helper()
	got, err := stamp.Pack(generation, position, payload)
	if err != want || got != (api.Block{}) {
		t.Errorf("Pack(%d, %d, %d bytes): error %d, not %d, % x", generation, position, len(payload), err, want, got)
	}
}

// reads fails, unless Read tells that stamp, and that this is meant.
func reads(t *testing.T, b api.Block, generation uint64, position uint32, meant []byte) {
	t.Helper()
	want := api.Stamp{Generation: generation, Position: position, Fill: len(meant)}
	got, payload, err := stamp.Read(b)
	if err != api.OK || got != want || !bytes.Equal(payload, meant) {
		t.Errorf("Read(% x): error %d, %v, not %v, % x, not % x", b, err, got, want, payload, meant)
	}
}

// unstamped fails, unless Read tells that the sector is not stamped, and nothing else.
func unstamped(t *testing.T, b api.Block) {
	t.Helper()
	got, payload, err := stamp.Read(b)
	if err != api.ErrStamp || got != (api.Stamp{}) || len(payload) != 0 {
		t.Errorf("Read(% x): error %d, %v, % x", b, err, got, payload)
	}
}

// P5.1, P5.2: the chapter's examples.
func TestExamples(t *testing.T) {
	want := api.Block{7: 1, 11: 2, 13: 1, 16: 3}
	packs(t, 1, 2, []byte{3}, want)
	reads(t, want, 1, 2, []byte{3})
	unstamped(t, api.Block{})
	for n, count := range map[int]int{0: 1, 48: 1, 49: 2, -1: 0} {
		if got := stamp.Sectors(n); got != count {
			t.Errorf("Sectors(%d): %d, not %d", n, got, count)
		}
	}
	refuses(t, 0, 2, []byte{3}, api.ErrArg)
	refuses(t, 1, 2, make([]byte, 49), api.ErrLong)
	if b, err := stamp.Join(nil); err != api.ErrStamp || len(b) != 0 {
		t.Errorf("Join of none: error %d, % x", err, b)
	}
}

// P5.1: each byte of a stamp has its own place, the highest first; the payload stands behind it.
func TestPackByHand(t *testing.T) {
	want := api.Block{1, 2, 3, 4, 5, 6, 7, 8, 0x11, 0x12, 0x13, 0x14, 0, 3, 0, 0, 0x21, 0x22, 0x23}
	packs(t, 0x0102030405060708, 0x11121314, []byte{0x21, 0x22, 0x23}, want)
	reads(t, want, 0x0102030405060708, 0x11121314, []byte{0x21, 0x22, 0x23})
	want = api.Block{255, 255, 255, 255, 255, 255, 255, 255, 255, 255, 255, 255, 0, 1, 0, 0, 255}
	packs(t, math.MaxUint64, math.MaxUint32, []byte{255}, want)
	reads(t, want, math.MaxUint64, math.MaxUint32, []byte{255})
}

// P5.1: payloads of all lengths that there are, of noughts too, in the least and the highest generation and position.
func TestPackAllLengths(t *testing.T) {
	for n := range api.Payload + 1 {
		for _, payload := range [][]byte{run(n), make([]byte, n), bytes.Repeat([]byte{255}, n)} {
			for _, generation := range []uint64{1, 255, 256, 1 << 63, math.MaxUint64} {
				for _, position := range []uint32{0, 1, 1 << 31, math.MaxUint32} {
					want := sector(generation, position, uint16(n), 0, payload...)
					packs(t, generation, position, payload, want)
					reads(t, want, generation, position, payload)
				}
			}
		}
	}
}

// P5.1: no payload is one of no bytes.
func TestPackOfNone(t *testing.T) {
	want := sector(9, 8, 0, 0)
	packs(t, 9, 8, nil, want)
	packs(t, 9, 8, []byte{}, want)
	reads(t, want, 9, 8, nil)
}

// P5.1: generation 0, whatever the payload is: that error goes ahead of ErrLong.
func TestPackRefusesGeneration0(t *testing.T) {
	for _, n := range []int{0, 1, 48, 49, 64, 1000} {
		for _, position := range []uint32{0, 1, math.MaxUint32} {
			refuses(t, 0, position, run(n), api.ErrArg)
		}
	}
}

// P5.1: payloads that are too long, those too whose length's lowest bits are right.
func TestPackRefusesLong(t *testing.T) {
	for _, n := range []int{49, 50, 63, 64, 65, 96, 256, 257, 304, 65535, 65536, 65537, 65584} {
		for _, generation := range []uint64{1, math.MaxUint64} {
			refuses(t, generation, 0, run(n), api.ErrLong)
			refuses(t, generation, math.MaxUint32, make([]byte, n), api.ErrLong)
		}
	}
}

// P5.1, R3: what stands behind the payload's end plays no part, and nothing is changed or kept.
func TestPackKeepsNothing(t *testing.T) {
	room := []byte{1, 2, 3, 4, 5}
	b, err := stamp.Pack(6, 7, room[:3])
	want := sector(6, 7, 3, 0, 1, 2, 3)
	if err != api.OK || b != want {
		t.Errorf("Pack with room behind: error %d, % x", err, b)
	}
	if !bytes.Equal(room, []byte{1, 2, 3, 4, 5}) {
		t.Errorf("changed: % x", room)
	}
	clear(room)
	other, _ := stamp.Pack(6, 7, []byte{9})
	if b != want || other != sector(6, 7, 1, 0, 9) {
		t.Errorf("shared: % x, % x", b, other)
	}
}

// P5.1: a sector of generation 0, in all else right.
func TestReadOfGeneration0(t *testing.T) {
	for _, position := range []uint32{0, 1, math.MaxUint32} {
		for _, n := range []int{0, 1, 47, 48} {
			unstamped(t, sector(0, position, uint16(n), 0, run(n)...))
			reads(t, sector(1<<56, position, uint16(n), 0, run(n)...), 1<<56, position, run(n))
			reads(t, sector(1, position, uint16(n), 0, run(n)...), 1, position, run(n))
		}
	}
}

// P5.1: of all fills just those are stamped that are no more than Payload, be the sector full of bytes or of noughts.
func TestReadOfAllFills(t *testing.T) {
	noughts := make([]byte, api.Payload)
	for fill := range 1 << 16 {
		empty := sector(5, 6, uint16(fill), 0)
		full := sector(5, 6, uint16(fill), 0, run(api.Payload)...)
		if fill > api.Payload {
			unstamped(t, empty)
			unstamped(t, full)
			continue
		}
		reads(t, empty, 5, 6, noughts[:fill])
		if fill < api.Payload {
			unstamped(t, full)
		}
	}
	reads(t, sector(5, 6, api.Payload, 0, run(api.Payload)...), 5, 6, run(api.Payload))
}

// P5.1: every bit of the two bytes behind the fill is a nought.
func TestReadOfTheTwoBytes(t *testing.T) {
	for _, n := range []int{0, 1, 48} {
		for two := uint32(1); two < 1<<16; two++ {
			unstamped(t, sector(5, 6, uint16(n), uint16(two), run(n)...))
		}
		reads(t, sector(5, 6, uint16(n), 0, run(n)...), 5, 6, run(n))
	}
}

// P5.1: at each place behind the fill one byte is enough that a sector is not stamped; ahead of it any is meant.
func TestReadBehindTheFill(t *testing.T) {
	for fill := range api.Payload + 1 {
		for at := range api.Payload {
			for _, x := range []byte{1, 128, 255} {
				b := sector(5, 6, uint16(fill), 0)
				b[16+at] = x
				if at >= fill {
					unstamped(t, b)
					continue
				}
				meant := make([]byte, fill)
				meant[at] = x
				reads(t, b, 5, 6, meant)
			}
		}
	}
}

// P5.1: noughts that are meant are told, and not those behind them.
func TestReadTellsNoughts(t *testing.T) {
	reads(t, sector(5, 6, 3, 0), 5, 6, []byte{0, 0, 0})
	reads(t, sector(5, 6, 4, 0, 0, 7), 5, 6, []byte{0, 7, 0, 0})
	reads(t, sector(5, 6, 48, 0), 5, 6, make([]byte, 48))
}

// P5.1, P5.3: sectors of one byte over and over; those of noughts are not stamped.
func TestReadOfOneByte(t *testing.T) {
	for x := range 256 {
		unstamped(t, api.Block(bytes.Repeat([]byte{byte(x)}, api.Sector)))
	}
}

// P5.1, R3: what is answered, and the room behind it, is new memory each time.
func TestReadSharesNothing(t *testing.T) {
	b := sector(5, 6, 3, 0, 1, 2, 3)
	_, first, _ := stamp.Read(b)
	_, second, _ := stamp.Read(b)
	_ = append(first, 9, 9)
	clear(first[:cap(first)])
	b[16] = 77
	if !bytes.Equal(second, []byte{1, 2, 3}) {
		t.Errorf("shared: % x", second)
	}
	reads(t, b, 5, 6, []byte{77, 2, 3})
}

// P5.3: Read of Pack is what was packed; Pack of what Read tells is the sector, whatever bit is turned.
func TestThereAndBack(t *testing.T) {
	for _, n := range []int{0, 1, 20, 47, 48} {
		for _, generation := range []uint64{1, 2, 1 << 40, math.MaxUint64} {
			b, err := stamp.Pack(generation, 0x80000001, run(n))
			if err != api.OK {
				t.Fatalf("Pack: error %d", err)
			}
			reads(t, b, generation, 0x80000001, run(n))
			for bit := range 8 * api.Sector {
				turned := b
				turned[bit/8] ^= 1 << (bit % 8)
				if s, payload, err := stamp.Read(turned); err == api.OK {
					packs(t, s.Generation, s.Position, payload, turned)
				} else {
					unstamped(t, turned)
				}
			}
		}
	}
}

// P5.3: a bit that is turned in the generation or the position tells another stamp, so that no sector is taken for another's.
func TestStampsAreTheirOwn(t *testing.T) {
	b := sector(1<<63|1, 5, 2, 0, 8, 9)
	for bit := range 96 {
		turned := b
		turned[bit/8] ^= 0x80 >> (bit % 8)
		generation, position := uint64(1<<63|1), uint32(5)
		if bit < 64 {
			generation ^= 1 << (63 - bit)
		} else {
			position ^= 1 << (95 - bit)
		}
		reads(t, turned, generation, position, []byte{8, 9})
	}
}
