package super_test

import (
	"math"
	"testing"

	"icehouse/api"
	"icehouse/super"
)

// top is the greatest of the numbers of 64 bits.
const top uint64 = math.MaxUint64

// plain is a superblock by the chapter's words, whether it says what may be or not: Segments and Sectors are cut to their two bytes.
func plain(x api.Super, turn uint64) api.Block {
	var list []byte
	put := func(n uint64, count int) {
		for i := range count {
			list = append(list, byte(n>>(8*(count-1-i))))
		}
	}
	list = append(list, 'i', 'c', 'e', 'h', 'o', 'u', 's', 'e')
	put(turn, 8)
	put(uint64(x.Segments), 2)
	put(uint64(x.Sectors), 2)
	for _, n := range []uint64{x.Generation, x.Retired, x.Reserved, x.Flush} {
		put(n, 8)
	}
	for len(list) < 56 {
		list = append(list, 0)
	}
	put(fnv(list), 8)
	var b api.Block
	for i := range b {
		b[i] = list[i]
	}
	return b
}

// fnv is the hash of FNV-1a.
func fnv(list []byte) uint64 {
	h := uint64(14695981039346656037)
	for _, c := range list {
		h = (h ^ uint64(c)) * 1099511628211
	}
	return h
}

// sealed is a block whose hash is made right.
func sealed(b api.Block) api.Block {
	h := fnv(b[:56])
	for i := range 8 {
		b[56+i] = byte(h >> (8 * (7 - i)))
	}
	return b
}

// mayBe is the chapter's words of what may be known.
func mayBe(x api.Super) bool {
	if x.Segments < 4 || x.Segments > 16 {
		return false
	}
	if x.Sectors < 24 || x.Sectors > 64 {
		return false
	}
	return x.Retired <= x.Generation
}

// grid tells what is known in all ways: the edges of each number, and those beside them, each with each.
func grid(tell func(x api.Super)) {
	divided := func(segments []int, sectors []int, numbers []uint64) {
		for _, a := range segments {
			for _, b := range sectors {
				for _, g := range numbers {
					for _, r := range numbers {
						for _, v := range numbers {
							for _, f := range numbers {
								tell(api.Super{Segments: a, Sectors: b, Generation: g, Retired: r, Reserved: v, Flush: f})
							}
						}
					}
				}
			}
		}
	}
	segments := []int{math.MinInt, -1, 0, 1, 3, 4, 5, 15, 16, 17, 255, 256, 65535, 65536 + 4, 1<<32 + 4, math.MaxInt}
	sectors := []int{math.MinInt, -1, 0, 1, 23, 24, 25, 63, 64, 65, 255, 256, 65535, 65536 + 24, 1<<32 + 24, math.MaxInt}
	divided(segments, sectors, []uint64{0, top})
	divided([]int{4, 16}, []int{24, 64}, []uint64{0, 1, 2, 1<<32 - 1, 1 << 32, 1 << 63, top - 1, top})
}

// encodes tells whether Encode answers just what is asked.
func encodes(t *testing.T, x api.Super, turn uint64, want api.Block, err api.Errno) {
	t.Helper()
	if b, e := super.Encode(x, turn); b != want || e != err {
		t.Fatalf("Encode(%v, %d) is %v, %d; asked is %v, %d", x, turn, b, e, want, err)
	}
}

// decodes tells whether Decode answers just what is asked.
func decodes(t *testing.T, b api.Block, want api.Super, turn uint64) {
	t.Helper()
	if x, n, err := super.Decode(b); x != want || n != turn || err != api.OK {
		t.Fatalf("Decode(%v) is %v, %d, %d; asked is %v, %d", b, x, n, err, want, turn)
	}
}

// wrong tells whether Decode finds that a block is not right.
func wrong(t *testing.T, b api.Block) {
	t.Helper()
	if x, turn, err := super.Decode(b); x != (api.Super{}) || turn != 0 || err != api.ErrFormat {
		t.Fatalf("Decode(%v) is %v, %d, %d; asked is ErrFormat", b, x, turn, err)
	}
}

// P7.1: the superblock, byte by byte.
func TestEncodeBytes(t *testing.T) {
	x := api.Super{Segments: 0x0B, Sectors: 0x2C, Generation: 0x1112131415161718, Retired: 0x0122232425262728, Reserved: 0x3132333435363738, Flush: 0x4142434445464748}
	want := sealed(api.Block{
		'i', 'c', 'e', 'h', 'o', 'u', 's', 'e',
		0x01, 0x02, 0x03, 0x04, 0x05, 0x06, 0x07, 0x08,
		0x00, 0x0B, 0x00, 0x2C,
		0x11, 0x12, 0x13, 0x14, 0x15, 0x16, 0x17, 0x18,
		0x01, 0x22, 0x23, 0x24, 0x25, 0x26, 0x27, 0x28,
		0x31, 0x32, 0x33, 0x34, 0x35, 0x36, 0x37, 0x38,
		0x41, 0x42, 0x43, 0x44, 0x45, 0x46, 0x47, 0x48,
		0, 0, 0, 0,
	})
	encodes(t, x, 0x0102030405060708, want, api.OK)
	decodes(t, want, x, 0x0102030405060708)
}

// P7.1, P7.5: all edges each with each, and each of some turns: ErrArg of what may not be; else the superblock, and back again.
func TestEncodeGrid(t *testing.T) {
	grid(func(x api.Super) {
		for _, turn := range []uint64{0, 1, 2, 1 << 32, top - 1, top} {
			if !mayBe(x) {
				encodes(t, x, turn, api.Block{}, api.ErrArg)
				continue
			}
			b := plain(x, turn)
			encodes(t, x, turn, b, api.OK)
			decodes(t, b, x, turn)
		}
	})
}

// P7.1: every number of segments and of sectors about the limits.
func TestEncodeDivisions(t *testing.T) {
	for segments := -2; segments <= 20; segments++ {
		for sectors := -2; sectors <= 70; sectors++ {
			x := api.Super{Segments: segments, Sectors: sectors, Generation: 9, Retired: 9}
			if mayBe(x) {
				encodes(t, x, 7, plain(x, 7), api.OK)
			} else {
				encodes(t, x, 7, api.Block{}, api.ErrArg)
			}
		}
	}
}

// P7.1: Retired is at most Generation.
func TestEncodeRetired(t *testing.T) {
	for _, g := range []uint64{0, 1, 255, 256, 1 << 32, top - 1} {
		x := api.Super{Segments: 4, Sectors: 24, Generation: g, Retired: g}
		encodes(t, x, 1, plain(x, 1), api.OK)
		x.Retired++
		encodes(t, x, 1, api.Block{}, api.ErrArg)
	}
	x := api.Super{Segments: 4, Sectors: 24, Generation: top, Retired: top}
	encodes(t, x, 1, plain(x, 1), api.OK)
}

// P7.1: a superblock of which one byte is other is not right, whichever byte and whatever it is.
func TestDecodeOtherByte(t *testing.T) {
	for _, x := range []api.Super{
		{Segments: 4, Sectors: 24},
		{Segments: 16, Sectors: 64, Generation: top, Retired: top, Reserved: top, Flush: top},
		{Segments: 7, Sectors: 33, Generation: 1 << 40, Retired: 77, Reserved: 1024, Flush: 5},
	} {
		for _, turn := range []uint64{0, 1, top} {
			right := plain(x, turn)
			for i := range right {
				for other := range 256 {
					b := right
					b[i] = byte(other)
					if b != right {
						wrong(t, b)
					}
				}
			}
		}
	}
}

// P7.1: with a right hash, too, a superblock is not right if its letters, or the noughts, are other.
func TestDecodeSealedOther(t *testing.T) {
	right := plain(api.Super{Segments: 5, Sectors: 30, Generation: 3, Retired: 2, Reserved: 1024, Flush: 9}, 6)
	for i := range 56 {
		if i >= 8 && i < 52 {
			continue
		}
		for other := range 256 {
			b := right
			b[i] = byte(other)
			if b != right {
				wrong(t, sealed(b))
			}
		}
	}
	wrong(t, sealed(api.Block{}))
	wrong(t, api.Block{})
	wrong(t, sealed(api.Block{'i', 'c', 'e', 'h', 'o', 'u', 's', 'e'}))
}

// P7.1: right hashes over what may not be.
func TestDecodeSealedMayNotBe(t *testing.T) {
	numbers := []int{0, 1, 3, 4, 5, 15, 16, 17, 23, 24, 25, 63, 64, 65, 255, 256, 256 + 4, 256 + 24, 4 << 8, 24 << 8, 65535}
	for _, segments := range numbers {
		for _, sectors := range numbers {
			for _, retired := range []uint64{0, 9, 10, top} {
				x := api.Super{Segments: segments, Sectors: sectors, Generation: 9, Retired: retired, Reserved: 1, Flush: 2}
				if mayBe(x) {
					decodes(t, plain(x, 3), x, 3)
				} else {
					wrong(t, plain(x, 3))
				}
			}
		}
	}
}

// P7.1: each byte of each number is read from its place.
func TestDecodeEachByte(t *testing.T) {
	x := api.Super{Segments: 4, Sectors: 24, Generation: top}
	for _, place := range []int{8, 28, 36, 44} {
		for i := range 8 {
			b := plain(x, 0)
			b[place+i] = 0x5A
			want, turn, n := x, uint64(0), uint64(0x5A)<<(8*(7-i))
			switch place {
			case 8:
				turn = n
			case 28:
				want.Retired = n
			case 36:
				want.Reserved = n
			case 44:
				want.Flush = n
			}
			decodes(t, sealed(b), want, turn)
		}
	}
}

// P7.1: what is handed in and what was answered hang on nothing together.
func TestEncodeNewMemory(t *testing.T) {
	x := api.Super{Segments: 4, Sectors: 24, Generation: 3}
	b, _ := super.Encode(x, 1)
	c := b
	b[0] = 0
	encodes(t, x, 1, c, api.OK)
	decodes(t, c, x, 1)
	wrong(t, b)
}
