package ram_test

import (
	"bytes"
	"slices"
	"strconv"
	"testing"

	"icehouse/api"
)

// followed is a watched memory, and what follows from all that was answered: which items there are, told by the answers alone.
type followed struct {
	watched
	there map[string]api.Item
}

func follow(t *testing.T, pages int) followed {
	return followed{of(t, pages), map[string]api.Item{}}
}

// put puts, and holds what is put out against what follows: it was there, and was the oldest of its class.
func (f followed) put(t *testing.T, x api.Item) int {
	t.Helper()
	ahead := slices.DeleteFunc(slices.Collect(f.m.All()), func(y api.Item) bool { return bytes.Equal(y.Key, x.Key) })
	out, err := f.watched.put(t, x)
	if err != api.OK {
		return 0
	}
	for _, y := range out {
		if !same(f.there[string(y.Key)], y) {
			t.Fatalf("Put of %s tells %s; there was %s", told(x), told(y), told(f.there[string(y.Key)]))
		}
		delete(f.there, string(y.Key))
		oldest := len(ahead) - 1
		for classOf(ahead[oldest]) != classOf(y) {
			oldest--
		}
		if !same(ahead[oldest], y) {
			t.Fatalf("Put of %s puts out %s; the oldest of its class is %s", told(x), told(y), told(ahead[oldest]))
		}
		ahead = slices.Delete(ahead, oldest, oldest+1)
	}
	f.there[string(x.Key)] = ownOf(x)
	return len(out)
}

func (f followed) remove(t *testing.T, key []byte) {
	t.Helper()
	_, there := f.there[string(key)]
	if err := f.watched.remove(t, key); (err == api.OK) != there {
		t.Fatalf("Remove(%q) is %d; that it is there is %t", key, err, there)
	}
	delete(f.there, string(key))
}

func (f followed) clean(t *testing.T, key []byte) {
	t.Helper()
	x, there := f.there[string(key)]
	if err := f.watched.clean(t, key); (err == api.OK) != there {
		t.Fatalf("Clean(%q) is %d; that it is there is %t", key, err, there)
	}
	if there {
		x.Dirty = false
		f.there[string(key)] = x
	}
}

func (f followed) clear(t *testing.T) {
	t.Helper()
	clear(f.there)
	f.watched.clear(t)
}

// follows holds all that is told against what follows.
func (f followed) follows(t *testing.T) {
	t.Helper()
	charge := 0
	for key, x := range f.there {
		charge += chargeOf(x)
		if y, err := f.m.Peek([]byte(key)); !same(x, y) || err != api.OK {
			t.Fatalf("Peek(%q) is %s, error %d; there is %s", key, told(y), err, told(x))
		}
	}
	if n, m := f.m.Len(), f.m.Charge(); n != len(f.there) || m != charge || m > 1024*f.p.pages {
		t.Fatalf("Len is %d, Charge %d of %d pages; there are %d of %d", n, m, f.p.pages, len(f.there), charge)
	}
	n := 0
	for x := range f.m.All() {
		n++
		if !same(f.there[string(x.Key)], x) {
			t.Fatalf("All tells %s; there is %s", told(x), told(f.there[string(x.Key)]))
		}
	}
	if n != len(f.there) {
		t.Fatalf("All tells %d; there are %d", n, len(f.there))
	}
	f.tells(t)
}

// P13.2 to P13.5: all sequences of four deeds with three keys and one or two pages: each key is put to three classes, got, removed; all are cleared.
func TestEachSequence(t *testing.T) {
	keys := []string{"a", "b", "c"}
	values := []int{500, 400, 200}
	each, length := len(keys)*5+1, 4
	all := 1
	for range length {
		all *= each
	}
	for pages := 1; pages <= 2; pages++ {
		for sequence := range all {
			w := of(t, pages)
			for step := range length {
				deed := sequence % each
				sequence /= each
				key, what := keys[deed%len(keys)], deed/len(keys)
				switch {
				case what < len(values):
					w.put(t, item(key, values[what], uint64(step+1)))
				case what == 3:
					w.get(t, []byte(key))
				case what == 4:
					w.remove(t, []byte(key))
				default:
					w.clear(t)
				}
			}
			w.tells(t)
		}
	}
}

// run is a long run: so many deeds, of which for a while most put, then most remove.
type run struct {
	pages, deeds, keys int
	charges            []int
	phase              int
	seed               uint64
}

// P13.2 to P13.5: long runs of all calls, in which items come and go many times as often as there are chunks.
func TestLongRuns(t *testing.T) {
	every := []int{27, 28, 31, 32, 33, 63, 64, 65, 95, 96, 97, 143, 144, 145, 215, 216, 217, 323, 324, 325, 485, 486, 487, 530}
	for _, r := range []run{
		{1, 6000, 3, []int{486, 400, 500}, 100, 1},
		{1, 8000, 60, every, 400, 2},
		{1, 6000, 100, []int{32, 64}, 500, 3},
		{2, 8000, 10, []int{300, 486, 487}, 200, 4},
		{3, 10000, 80, every, 300, 5},
		{4, 10000, 40, every[12:], 2000, 6},
		{8, 12000, 200, every, 600, 7},
		{8, 12000, 300, []int{32, 33, 530}, 500, 8},
		{16, 12000, 90, []int{324, 325, 530, 100}, 1000, 9},
		{40, 20000, 500, every, 4000, 10},
		{256, 12000, 3000, []int{324, 486, 487, 530, 535}, 10000, 11},
	} {
		r.walk(t)
	}
}

// walk does all of the run's deeds.
func (r run) walk(t *testing.T) {
	t.Helper()
	f, d := follow(t, r.pages), &drawn{r.seed}
	came, out := 0, 0
	wrong := wrongItems()
	for i := range r.deeds {
		key := []byte("k" + strconv.Itoa(d.below(r.keys)))
		putting := d.below(10) < 7
		if i/r.phase%2 == 1 {
			putting = !putting
		}
		switch what := d.below(10); {
		case what < 2:
			f.get(t, key)
		case what == 2:
			f.peek(t, key)
		case what == 3:
			f.clean(t, key)
		case d.below(r.phase) == 0:
			f.clear(t)
		case d.below(40) == 0:
			f.refuses(t, wrong[d.below(len(wrong))])
		case putting:
			came++
			out += f.put(t, r.item(d, key, uint64(i+1)))
		default:
			f.remove(t, r.gone(f, d, key))
		}
		if i%max(3, r.keys) == 0 {
			f.follows(t)
			f.same(t)
		}
	}
	f.follows(t)
	if came < 8*r.pages || out < 4*r.pages {
		t.Errorf("run of %d pages, seed %d: only %d came, %d were put out", r.pages, r.seed, came, out)
	}
}

// item is one of that key; its charge is one of the run's.
func (r run) item(d *drawn, key []byte, seq uint64) api.Item {
	x := item(string(key), max(0, r.charges[d.below(len(r.charges))]-24-len(key)), seq)
	x.Dirty = d.below(2) == 0
	return x
}

// gone is which key is removed: that one, or mostly one that is there.
func (r run) gone(f followed, d *drawn, key []byte) []byte {
	if n := len(f.p.there); n > 0 && d.below(4) > 0 {
		return bytes.Clone(f.p.there[d.below(n)].Key)
	}
	return key
}

// P13.5: laps: class by class fills all pages, many times round; nothing is left of what was there.
func TestLaps(t *testing.T) {
	for _, pages := range []int{1, 2, 5, 20} {
		f := follow(t, pages)
		for lap := range 4 {
			for step := range sizes {
				class := (step*(2*lap+1) + lap) % len(sizes)
				name := string(rune('a'+lap)) + string(rune('a'+step))
				for _, x := range several(t, name, pages*chunks[class], min(sizes[class], 500), uint64(lap*8+step+1)) {
					f.put(t, x)
				}
				f.follows(t)
				if n := f.m.Len(); class > 0 && n == 0 || n > 32*pages {
					t.Fatalf("lap %d, class %d: Len is %d", lap, class, n)
				}
			}
		}
	}
}
