package ram_test

import (
	"bytes"
	"math"
	"slices"
	"strconv"
	"strings"
	"testing"

	"icehouse/api"
	"icehouse/ram"
)

// sizes and chunks are those of the classes.
var (
	sizes  = []int{32, 64, 96, 144, 216, 324, 486, 1024}
	chunks = []int{32, 16, 10, 7, 4, 3, 2, 1}
)

// chargeOf is what an item is charged for.
func chargeOf(x api.Item) int { return 24 + len(x.Key) + len(x.Value) }

// classOf is the class of an item's charge.
func classOf(x api.Item) int {
	return slices.IndexFunc(sizes, func(size int) bool { return chargeOf(x) <= size })
}

// entry is an item, the page in which it lies, and when it was put or touched last.
type entry struct {
	api.Item
	class, page, when int
}

// plain is the chapter's words: the items, in no order.
type plain struct {
	pages, deeds int
	there        []entry
}

func (p *plain) now() int {
	p.deeds++
	return p.deeds
}

func (p *plain) find(key []byte) (int, api.Errno) {
	i := slices.IndexFunc(p.there, func(e entry) bool { return bytes.Equal(e.Key, key) })
	if i < 0 {
		return 0, api.ErrNone
	}
	return i, api.OK
}

// takeOut takes out an item and tells it.
func (p *plain) takeOut(i int) api.Item {
	x := p.there[i].Item
	p.there = slices.Delete(p.there, i, i+1)
	return x
}

// room is the page that has room for the class, or -1.
func (p *plain) room(class int) int {
	used, of := make([]int, p.pages), make([]int, p.pages)
	for _, e := range p.there {
		used[e.page]++
		of[e.page] = e.class
	}
	for page, n := range used {
		if n > 0 && of[page] == class && n < chunks[class] {
			return page
		}
	}
	return slices.Index(used, 0)
}

// oldest is the oldest item of the class, or -1.
func (p *plain) oldest(class int) int {
	at := -1
	for i, e := range p.there {
		if e.class == class && (at < 0 || e.when < p.there[at].when) {
			at = i
		}
	}
	return at
}

// next is the item that is put out next for one of the class.
func (p *plain) next(class int) int {
	at := p.oldest(class)
	for class = 0; at < 0; class++ {
		at = p.oldest(class)
	}
	return at
}

func (p *plain) put(x api.Item) ([]api.Item, api.Errno) {
	if len(x.Key) < 1 || len(x.Key) > 250 || len(x.Value) > 512 || x.Seq == 0 {
		return nil, api.ErrItem
	}
	if i, err := p.find(x.Key); err == api.OK {
		p.takeOut(i)
	}
	var out []api.Item
	class := classOf(x)
	for p.room(class) < 0 {
		out = append(out, p.takeOut(p.next(class)))
	}
	p.there = append(p.there, entry{ownOf(x), class, p.room(class), p.now()})
	return out, api.OK
}

func (p *plain) get(key []byte) (api.Item, api.Errno) {
	i, err := p.find(key)
	if err != api.OK {
		return api.Item{}, err
	}
	p.there[i].when = p.now()
	return p.there[i].Item, api.OK
}

func (p *plain) peek(key []byte) (api.Item, api.Errno) {
	i, err := p.find(key)
	if err != api.OK {
		return api.Item{}, err
	}
	return p.there[i].Item, api.OK
}

func (p *plain) remove(key []byte) api.Errno {
	i, err := p.find(key)
	if err == api.OK {
		p.takeOut(i)
	}
	return err
}

func (p *plain) clean(key []byte) api.Errno {
	i, err := p.find(key)
	if err == api.OK {
		p.there[i].Dirty = false
	}
	return err
}

func (p *plain) charge() int {
	n := 0
	for _, e := range p.there {
		n += chargeOf(e.Item)
	}
	return n
}

func (p *plain) all() []api.Item {
	l := slices.Clone(p.there)
	slices.SortFunc(l, func(a, b entry) int {
		if a.class != b.class {
			return a.class - b.class
		}
		return b.when - a.when
	})
	var all []api.Item
	for _, e := range l {
		all = append(all, e.Item)
	}
	return all
}

// watched is a memory, and what it should be. Whatever is handed in, and whatever is told, is spoilt behind each call, so that it shows if any of it is kept.
type watched struct {
	m *ram.Ram
	p *plain
}

// of is a memory of so many pages, to which those items were put, one behind the other.
func of(t *testing.T, pages int, l ...api.Item) watched {
	t.Helper()
	m, err := ram.New(pages)
	if m == nil || err != api.OK {
		t.Fatalf("New(%d) is %v, error %d", pages, m, err)
	}
	w := watched{m, &plain{pages: pages}}
	for _, x := range l {
		w.puts(t, x)
	}
	return w
}

// put puts to both, and holds the answers against each other.
func (w watched) put(t *testing.T, x api.Item) ([]api.Item, api.Errno) {
	t.Helper()
	handed := x
	handed.Key, handed.Value = lent(x.Key), lent(x.Value)
	out, err := w.m.Put(handed)
	asked, askedErr := w.p.put(x)
	if !slices.EqualFunc(out, asked, same) || err != askedErr {
		t.Fatalf("Put of %s tells %s, error %d; asked is %s, error %d", told(x), told(out...), err, told(asked...), askedErr)
	}
	giveBack(t, handed.Key, x.Key)
	giveBack(t, handed.Value, x.Value)
	spoil(t, out)
	return asked, err
}

// puts puts to both, and holds the answer against the keys that the test asks for, too.
func (w watched) puts(t *testing.T, x api.Item, out ...string) {
	t.Helper()
	l, err := w.put(t, x)
	if err != api.OK || !slices.Equal(keysOf(l), out) {
		t.Fatalf("Put of %s tells %s, error %d; the test asks for %q", told(x), told(l...), err, out)
	}
}

// refuses puts what is no item.
func (w watched) refuses(t *testing.T, x api.Item) {
	t.Helper()
	if out, err := w.put(t, x); len(out) != 0 || err != api.ErrItem {
		t.Fatalf("Put of %s tells %s, error %d; the test asks for error %d", told(x), told(out...), err, api.ErrItem)
	}
}

func (w watched) get(t *testing.T, key []byte) api.Errno {
	t.Helper()
	return tells(t, "Get", w.m.Get, w.p.get, key)
}

func (w watched) peek(t *testing.T, key []byte) api.Errno {
	t.Helper()
	return tells(t, "Peek", w.m.Peek, w.p.peek, key)
}

func (w watched) remove(t *testing.T, key []byte) api.Errno {
	t.Helper()
	return does(t, "Remove", w.m.Remove, w.p.remove, key)
}

func (w watched) clean(t *testing.T, key []byte) api.Errno {
	t.Helper()
	return does(t, "Clean", w.m.Clean, w.p.clean, key)
}

// tells holds what a call tells of the key against the words.
func tells(t *testing.T, name string, call, words func([]byte) (api.Item, api.Errno), key []byte) api.Errno {
	t.Helper()
	handed := lent(key)
	x, err := call(handed)
	asked, askedErr := words(key)
	if !same(x, asked) || err != askedErr {
		t.Fatalf("%s(%q) is %s, error %d; asked is %s, error %d", name, key, told(x), err, told(asked), askedErr)
	}
	giveBack(t, handed, key)
	spoil(t, []api.Item{x})
	return err
}

// does holds how a call ends against the words.
func does(t *testing.T, name string, call, words func([]byte) api.Errno, key []byte) api.Errno {
	t.Helper()
	handed := lent(key)
	err, asked := call(handed), words(key)
	if err != asked {
		t.Fatalf("%s(%q) is %d; asked is %d", name, key, err, asked)
	}
	giveBack(t, handed, key)
	return err
}

// gets, peeks, removes and cleans ask of a key that an item has.
func (w watched) gets(t *testing.T, key string) {
	t.Helper()
	hits(t, w.get, key)
}

func (w watched) peeks(t *testing.T, key string) {
	t.Helper()
	hits(t, w.peek, key)
}

func (w watched) removes(t *testing.T, key string) {
	t.Helper()
	hits(t, w.remove, key)
}

func (w watched) cleans(t *testing.T, key string) {
	t.Helper()
	hits(t, w.clean, key)
}

func hits(t *testing.T, call func(*testing.T, []byte) api.Errno, key string) {
	t.Helper()
	if err := call(t, []byte(key)); err != api.OK {
		t.Fatalf("of %q, which is there, it is error %d", key, err)
	}
}

// misses asks of a key that no item has.
func (w watched) misses(t *testing.T, key []byte) {
	t.Helper()
	a, b, c, d := w.get(t, key), w.peek(t, key), w.remove(t, key), w.clean(t, key)
	if a != api.ErrNone || b != api.ErrNone || c != api.ErrNone || d != api.ErrNone {
		t.Fatalf("of %q Get is error %d, Peek %d, Remove %d, Clean %d", key, a, b, c, d)
	}
}

func (w watched) clear(t *testing.T) {
	t.Helper()
	w.p.there = nil
	if err := w.m.Clear(); err != api.OK {
		t.Fatalf("Clear is error %d", err)
	}
}

// tells holds All, Len and Charge against the words.
func (w watched) tells(t *testing.T) {
	t.Helper()
	all, asked := slices.Collect(w.m.All()), w.p.all()
	if !slices.EqualFunc(all, asked, same) {
		t.Fatalf("All tells %s; asked is %s", told(all...), told(asked...))
	}
	if n := w.m.Len(); n != len(asked) {
		t.Fatalf("Len is %d; asked is %d", n, len(asked))
	}
	if n := w.m.Charge(); n != w.p.charge() || n > 1024*w.p.pages {
		t.Fatalf("Charge is %d of %d pages; asked is %d", n, w.p.pages, w.p.charge())
	}
	spoil(t, all)
}

// same asks everything, and holds it against the words; nothing of it moves an item.
func (w watched) same(t *testing.T) {
	t.Helper()
	w.tells(t)
	for _, e := range w.p.there {
		w.peek(t, e.Key)
	}
	w.misses(t, nil)
	w.misses(t, []byte("no item's key"))
	w.tells(t)
}

// has holds the keys of All against those that the test asks for.
func (w watched) has(t *testing.T, keys ...string) {
	t.Helper()
	w.tells(t)
	if l := keysOf(w.p.all()); !slices.Equal(l, keys) {
		t.Fatalf("All tells %q; the test asks for %q", l, keys)
	}
}

// item is one of that key with a value of so many bytes; all its fields are told by its sequence.
func item(key string, size int, seq uint64) api.Item {
	x := api.Item{Key: []byte(key), Flags: uint32(seq * 77), Expiry: uint32(seq*13 + 1), Seq: seq, Dirty: seq%3 > 0}
	for i := range size {
		x.Value = append(x.Value, byte(i)+byte(seq)*31+key[0])
	}
	return x
}

// charged is an item of that key with so much charge; its value is at most MaxValue.
func charged(t *testing.T, key string, charge int, seq uint64) api.Item {
	t.Helper()
	x := item(key, charge-24-len(key), seq)
	if chargeOf(x) != charge || len(x.Value) > 512 {
		t.Fatalf("%s hasn't a charge of %d", told(x), charge)
	}
	return x
}

// several are items of that charge, of the keys a name and a number behind it, from 0 on; their sequences begin with that one.
func several(t *testing.T, name string, n, charge int, seq uint64) []api.Item {
	t.Helper()
	var l []api.Item
	for i := range n {
		l = append(l, charged(t, name+strconv.Itoa(i), charge, seq+uint64(i)))
	}
	return l
}

// ownOf is the same item in memory of its own.
func ownOf(x api.Item) api.Item {
	x.Key, x.Value = bytes.Clone(x.Key), bytes.Clone(x.Value)
	return x
}

// same tells whether two items are; nil and empty lists are.
func same(a, b api.Item) bool {
	return bytes.Equal(a.Key, b.Key) && bytes.Equal(a.Value, b.Value) && a.Flags == b.Flags && a.Expiry == b.Expiry && a.Seq == b.Seq && a.Dirty == b.Dirty
}

// told is items in short, for who reads why a test fails.
func told(l ...api.Item) string {
	var b strings.Builder
	for _, x := range l {
		b.WriteString("[" + strconv.Quote(string(x.Key)) + " " + strconv.Itoa(len(x.Value)) + " bytes, seq " + strconv.FormatUint(x.Seq, 10) + ", dirty " + strconv.FormatBool(x.Dirty) + "]")
	}
	return "(" + b.String() + ")"
}

// keysOf is the items' keys, in order.
func keysOf(l []api.Item) []string {
	var keys []string
	for _, x := range l {
		keys = append(keys, string(x.Key))
	}
	return keys
}

// behind is what stands in the room behind a lent list's end.
var behind = []byte("not yours to touch")

// lent is the same bytes, with room behind their end; nil stays nil.
func lent(b []byte) []byte {
	if b == nil {
		return nil
	}
	return slices.Concat(b, behind)[:len(b)]
}

// giveBack tells whether lent bytes are as they were, and spoils them.
func giveBack(t *testing.T, handed, was []byte) {
	t.Helper()
	if was == nil {
		return
	}
	if all := handed[:len(handed)+len(behind)]; !bytes.Equal(all, slices.Concat(was, behind)) {
		t.Fatalf("%q was handed in, and is %q now", was, all)
	}
	turn(handed)
}

// spoil changes all bytes that were told, those in the room behind them, too; no list may share its room with another one.
func spoil(t *testing.T, l []api.Item) {
	t.Helper()
	var lists, asked [][]byte
	for _, x := range l {
		lists = append(lists, x.Key, x.Value)
		asked = append(asked, bytes.Clone(x.Key), bytes.Clone(x.Value))
	}
	for i, list := range lists {
		if !bytes.Equal(list, asked[i]) {
			t.Fatalf("list %d of %d shares its room with one ahead of it", i, len(lists))
		}
		turn(list)
		turn(asked[i])
	}
	if !slices.EqualFunc(lists, asked, bytes.Equal) {
		t.Fatalf("of %d lists one shares its room with one behind it", len(lists))
	}
}

// turn changes each byte of the list, and of the room behind it.
func turn(b []byte) {
	b = b[:cap(b)]
	for i := range b {
		b[i] ^= 0x5A
	}
}

// wrongPages are numbers of pages that may not be.
func wrongPages() []int {
	return []int{math.MinInt, math.MinInt + 1, math.MinInt32, -257, -256, -255, -2, -1, 0, 257, 258, 511, 512, 513, 1 << 16, 1<<16 + 1, math.MaxInt32, 1 << 32, 1<<32 + 1, math.MaxInt - 1, math.MaxInt}
}

// wrongItems are no items: each has a wrong key, value or sequence, or several of these.
func wrongItems() []api.Item {
	var l []api.Item
	for _, key := range []int{0, 1, 250, 251, 252, 506, 1000, 65537} {
		for _, value := range []int{0, 1, 512, 513, 514, 768, 1024, 65536} {
			for _, seq := range []uint64{0, 1, math.MaxUint64} {
				if key < 1 || key > 250 || value > 512 || seq == 0 {
					l = append(l, api.Item{Key: bytes.Repeat([]byte("a"), key), Value: bytes.Repeat([]byte("v"), value), Seq: seq, Dirty: true})
				}
			}
		}
	}
	return append(l, api.Item{}, api.Item{Seq: 1}, api.Item{Key: []byte("a")}, api.Item{Value: []byte("v"), Flags: 1, Expiry: 1, Seq: 1, Dirty: true})
}

// drawn are numbers told by a rule, the same in every run.
type drawn struct{ last uint64 }

// below tells a number from 0 to n - 1.
func (d *drawn) below(n int) int {
	d.last = d.last*6364136223846793005 + 1442695040888963407
	return int(d.last >> 33 % uint64(n))
}
