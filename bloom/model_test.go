package bloom_test

import (
	"bytes"
	"maps"
	"math"
	"math/rand"
	"slices"
	"testing"

	"icehouse/api"
	"icehouse/bloom"
)

// hashes are so many, the first of them at the edges of their halves.
func hashes(count int) []uint64 {
	out := []uint64{0, 1, math.MaxUint32, 1 << 32, 2 << 32, 3 << 32, 1<<63 | 5, math.MaxUint64, math.MaxUint64 - 1<<32}
	r := rand.New(rand.NewSource(4))
	for len(out) < count {
		out = append(out, r.Uint64())
	}
	return out[:count]
}

// numbers are the bits of a hash among so many, as the words say them, in numbers that can't wrap round.
func numbers(h uint64, size int) []int {
	a, b := h%(1<<32), h/(1<<32)
	if b%2 == 0 {
		b++
	}
	var out []int
	for i := range uint64(4) {
		out = append(out, int((a+i*b)%(1<<32)%uint64(size)))
	}
	return out
}

// model is what the chapter says of a filter, as plainly as can be: the numbers of the bits that are 1, and the hashes of which May must be true.
type model struct {
	size  int
	ones  map[int]int
	added map[uint64]int
}

func fresh(size int) *model {
	return &model{size, map[int]int{}, map[uint64]int{}}
}

func (m *model) add(h uint64) {
	for _, n := range numbers(h, m.size) {
		m.ones[n] = 1
	}
	m.added[h] = 1
}

func (m *model) may(h uint64) bool {
	return !slices.ContainsFunc(numbers(h, m.size), func(n int) bool { return m.ones[n] == 0 })
}

// pair is a filter and its model.
type pair struct {
	f *bloom.Filter
	m *model
}

// holds fails, unless the filter is as its model, and denies nothing that was added.
func (p pair) holds(t *testing.T, asked []uint64) {
	t.Helper()
	ones(t, "walk", p.f, p.m.size, slices.Sorted(maps.Keys(p.m.ones))...)
	for h := range p.m.added {
		may(t, "walk, added", p.f, h, true)
	}
	for _, h := range asked {
		may(t, "walk", p.f, h, p.m.may(h))
	}
	if p.f.Set() > 4*len(p.m.added) {
		t.Errorf("walk: %d bits of %d hashes", p.f.Set(), len(p.m.added))
	}
}

// step does one thing to one of the pairs, or to two of them.
func step(t *testing.T, r *rand.Rand, pairs []pair, asked []uint64) {
	t.Helper()
	i, j := r.Intn(len(pairs)), r.Intn(len(pairs))
	p, q := pairs[i], pairs[j]
	ahead := p.f.Set()
	switch k := r.Intn(20); {
	case k < 14:
		h := asked[r.Intn(len(asked))]
		is(t, "Add", p.f.Add(h), api.OK)
		p.m.add(h)
	case k < 17 && p.m.size != q.m.size:
		is(t, "Join", p.f.Join(q.f), api.ErrFilter)
	case k < 17:
		is(t, "Join", p.f.Join(q.f), api.OK)
		maps.Copy(p.m.ones, q.m.ones)
		maps.Copy(p.m.added, q.m.added)
	case k < 19:
		f, err := bloom.Of(p.f.Bytes())
		is(t, "Of", err, api.OK)
		is(t, "Clear", p.f.Clear(), api.OK)
		pairs[i].f = f
	default:
		is(t, "Clear", p.f.Clear(), api.OK)
		clear(p.m.ones)
		clear(p.m.added)
		ahead = 0
	}
	if got := pairs[i].f.Set(); got < ahead {
		t.Errorf("walk: Set fell from %d to %d", ahead, got)
	}
}

// P4.2 to P4.5: filters go as the chapter's words say, whatever is done to them; no Set falls but by Clear.
func TestWalks(t *testing.T) {
	for seed := range int64(20) {
		r := rand.New(rand.NewSource(seed))
		asked := hashes(60)
		var pairs []pair
		for _, size := range []int{8, 64, 200, 200, 200, 1024, 1024} {
			pairs = append(pairs, pair{filter(t, size), fresh(size)})
		}
		for range 150 {
			step(t, r, pairs, asked)
			for _, p := range pairs {
				p.holds(t, asked)
			}
			if t.Failed() {
				t.Fatalf("seed %d", seed)
			}
		}
	}
}

// P4.5: May is true of every hash that was added, in filters of every size that is not great.
func TestNothingIsDenied(t *testing.T) {
	all := hashes(100)
	for size := 8; size <= 2048; size += 8 {
		f := filter(t, size, all...)
		for _, h := range all {
			may(t, "added", f, h, true)
		}
	}
}

// P4.5: a hash stays added behind joins, the one of a join too, and Of of Bytes.
func TestNothingIsDeniedBehindJoins(t *testing.T) {
	all := hashes(90)
	last := filter(t, 1024)
	for part := range slices.Chunk(all, 10) {
		next := filter(t, 1024, part...)
		is(t, "Join", next.Join(last), api.OK)
		last = of(t, next.Bytes()...)
	}
	for _, h := range all {
		may(t, "of a chain of joins", last, h, true)
	}
}

// P4.5: the order in which hashes are added is no matter, nor how they are parted among filters that are joined.
func TestOrderIsNoMatter(t *testing.T) {
	r := rand.New(rand.NewSource(45))
	for _, size := range []int{8, 72, 1024, 65536} {
		all := hashes(20)
		want := filter(t, size, all...).Bytes()
		for range 20 {
			r.Shuffle(len(all), func(i, j int) { all[i], all[j] = all[j], all[i] })
			if got := filter(t, size, all...).Bytes(); !bytes.Equal(got, want) {
				t.Fatalf("of %d bits: another order, another filter", size)
			}
			cut := r.Intn(len(all))
			f, g := filter(t, size, all[:cut]...), filter(t, size, all[cut:]...)
			is(t, "Join", f.Join(g), api.OK)
			if !bytes.Equal(f.Bytes(), want) {
				t.Fatalf("of %d bits: parted at %d, another filter", size, cut)
			}
		}
	}
}

// P4.5: Of of Bytes is the same filter, Bytes of Of the bytes.
func TestThereAndBack(t *testing.T) {
	r := rand.New(rand.NewSource(54))
	for _, size := range []int{8, 16, 1000, 1024, 65528, 65536} {
		b := whole(size)
		r.Read(b[4:])
		f := of(t, b...)
		if !bytes.Equal(f.Bytes(), b) {
			t.Errorf("of %d bits: Bytes of Of are not the bytes", size)
		}
		g := of(t, f.Bytes()...)
		if g.Bits() != f.Bits() || g.Set() != f.Set() || !bytes.Equal(g.Bytes(), b) {
			t.Errorf("of %d bits: Of of Bytes is another filter", size)
		}
		for _, h := range hashes(200) {
			may(t, "Of of Bytes", g, h, f.May(h))
		}
	}
}

// P4.5: Set never falls as hashes are added, and is at most four times as many.
func TestSetIsBound(t *testing.T) {
	for _, size := range []int{8, 48, 1024, 65536} {
		f, ahead := filter(t, size), 0
		for i, h := range hashes(300) {
			is(t, "Add", f.Add(h), api.OK)
			got := f.Set()
			if got < ahead || got > 4*(i+1) || got > size {
				t.Errorf("of %d bits, %d hashes: %d set, %d ahead of the last", size, i+1, got, ahead)
			}
			ahead = got
		}
	}
}

// P4.5: of what was not added a filter that is wide enough says no to most.
func TestMostOthersAreDenied(t *testing.T) {
	all := hashes(2050)
	f := filter(t, 1024, all[:50]...)
	yes := 0
	for _, h := range all[50:] {
		if f.May(h) {
			yes++
		}
	}
	if yes > 100 {
		t.Errorf("yes to %d of 2000 that were not added", yes)
	}
}
