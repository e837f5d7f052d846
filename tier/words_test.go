package tier_test

import (
	"math"
	"math/big"
	"strconv"

	"icehouse/api"
	"icehouse/clean"
	"icehouse/ram"
	"icehouse/store"
)

// warm and cold are memory and disk, as the words ask of them: the program's own, or plain ones.
type warm interface {
	get(key string) (api.Item, bool)
	put(x api.Item) []api.Item
	remove(key string)
	clean(key string)
	clear()
	all() []api.Item
	charge() int
}

type cold interface {
	get(key string, now uint32) (api.Item, api.Errno)
	put(x api.Item) api.Errno
	may(key string) bool
	kill(key string, seq uint64) api.Errno
	flush(seq uint64) api.Errno
	sync() api.Errno
	degraded() bool
	len() int
	room(n int, now uint32) api.Errno
	reserved() uint64
	reserve(upTo uint64) api.Errno
}

// words is what chapter 18 says, sentence by sentence.
type words struct {
	warm
	cold cold
	seq  uint64
}

// take is a sequence; false, if it fails.
func (w *words) take() (uint64, bool) {
	if w.seq == math.MaxUint64 {
		return 0, false
	}
	if known := w.cold.reserved(); w.seq+1 > known {
		upTo := uint64(math.MaxUint64)
		if known < math.MaxUint64-1024 {
			upTo = known + 1024
		}
		if w.cold.reserve(upTo) != api.OK {
			return 0, false
		}
	}
	w.seq++
	return w.seq, true
}

// lay puts an item to the Ram.
func (w *words) lay(x api.Item, now uint32) {
	for _, y := range w.put(x) {
		if y.Dirty {
			w.cold.room(2, now)
			w.cold.put(y)
		}
	}
}

// find tells the key's item, whether there is one, and whether finding failed.
func (w *words) find(key string, now uint32) (x api.Item, there, failed bool) {
	if x, there = w.get(key); there {
		if x.Expiry > 0 && x.Expiry <= now {
			w.remove(key)
			return api.Item{}, false, false
		}
		return x, true, false
	}
	x, err := w.cold.get(key, now)
	if err == api.OK {
		w.lay(x, now)
	}
	return x, err == api.OK, err == api.ErrIo || err == api.ErrDead
}

// kill is whether the key's copy was killed.
func (w *words) kill(key string, now uint32) bool {
	if !w.cold.may(key) {
		return true
	}
	w.cold.room(2, now)
	seq, ok := w.take()
	return ok && w.cold.kill(key, seq) == api.OK
}

// write is the answer to a key's being written; 0 is no sequence.
func (w *words) write(x api.Item, now uint32) api.Answer {
	seq, ok := uint64(0), w.kill(string(x.Key), now)
	if ok {
		seq, ok = w.take()
	}
	if !ok {
		w.remove(string(x.Key))
		return api.Answer{Status: 0x84}
	}
	x.Seq, x.Dirty = seq, true
	w.lay(x, now)
	return api.Answer{Cas: seq}
}

// do is Do, of an engine that is there.
func (w *words) do(q api.Request, now uint32) api.Answer {
	keyed, valued := true, false
	switch q.Op {
	case 0x00, 0x1C, 0x1D, 0x04, 0x05, 0x06:
	case 0x01, 0x02, 0x03, 0x0E, 0x0F:
		valued = true
	case 0x07, 0x08, 0x0A, 0x0B, 0x10, 0x40:
		keyed = false
	default:
		if q.Bad == 0 {
			return api.Answer{Status: 0x81}
		}
	}
	switch {
	case q.Bad != 0:
		return api.Answer{Status: q.Bad}
	case !keyed:
		return w.unkeyed(q, now)
	case len(q.Key) == 0 || len(q.Key) > 250:
		return api.Answer{Status: 4}
	case valued && len(q.Value) > 512:
		return api.Answer{Status: 3}
	}
	x, there, failed := w.find(string(q.Key), now)
	if failed {
		return api.Answer{Status: 0x84}
	}
	// The request's lists are the caller's, and the item's lie in memory.
	x.Key = q.Key
	switch q.Op {
	case 0x00:
		if !there {
			return api.Answer{Status: 1}
		}
		return api.Answer{Value: own(x.Value), Flags: x.Flags, Cas: x.Seq}
	case 0x1C, 0x1D:
		return w.touch(q, x, there, now)
	case 0x05, 0x06:
		return w.count(q, x, there, now)
	}
	return w.store(q, x, there, now)
}

func (w *words) touch(q api.Request, x api.Item, there bool, now uint32) api.Answer {
	if !there {
		return api.Answer{Status: 1}
	}
	x.Expiry = expiryByWords(now, q.Expiry)
	a := w.write(x, now)
	if a.Status == 0 && q.Op == 0x1D {
		a.Value, a.Flags = own(x.Value), x.Flags
	}
	return a
}

// store is set, add, replace, append, prepend and delete.
func (w *words) store(q api.Request, x api.Item, there bool, now uint32) api.Answer {
	misfit := there && q.Cas != 0 && q.Cas != x.Seq
	next := api.Item{Key: q.Key, Value: q.Value, Flags: q.Flags, Expiry: expiryByWords(now, q.Expiry)}
	switch q.Op {
	case 0x01:
		if q.Cas != 0 && !there {
			return api.Answer{Status: 1}
		}
	case 0x02:
		if there {
			return api.Answer{Status: 2}
		}
	case 0x03, 0x04:
		if !there {
			return api.Answer{Status: 1}
		}
	default:
		if !there {
			return api.Answer{Status: 5}
		}
		next.Value = []byte(string(x.Value) + string(q.Value))
		if q.Op == 0x0F {
			next.Value = []byte(string(q.Value) + string(x.Value))
		}
		next.Flags, next.Expiry = x.Flags, x.Expiry
	}
	switch {
	case misfit:
		return api.Answer{Status: 2}
	case len(next.Value) > 512 && q.Op != 0x04:
		return api.Answer{Status: 3}
	case q.Op != 0x04:
		return w.write(next, now)
	}
	killed := w.kill(string(q.Key), now)
	w.remove(string(q.Key))
	if !killed {
		return api.Answer{Status: 0x84}
	}
	return api.Answer{}
}

// count is incr and decr.
func (w *words) count(q api.Request, x api.Item, there bool, now uint32) api.Answer {
	n := q.Initial
	switch {
	case !there && q.Expiry == math.MaxUint32:
		return api.Answer{Status: 1}
	case !there:
		x = api.Item{Key: q.Key, Value: decimal(n), Expiry: expiryByWords(now, q.Expiry)}
	case q.Cas != 0 && q.Cas != x.Seq:
		return api.Answer{Status: 2}
	default:
		var ok bool
		if n, ok = turnByWords(x.Value, q.Delta, q.Op == 0x06); !ok {
			return api.Answer{Status: 6}
		}
		x.Value = decimal(n)
	}
	a := w.write(x, now)
	if a.Status == 0 {
		a.Number = n
	}
	return a
}

// unkeyed is what has no key.
func (w *words) unkeyed(q api.Request, now uint32) api.Answer {
	switch q.Op {
	case 0x07:
		return api.Answer{Close: true}
	case 0x08:
		if q.Expiry != 0 {
			return api.Answer{Status: 4}
		}
		if seq, ok := w.take(); !ok || w.cold.flush(seq) != api.OK {
			return api.Answer{Status: 0x84}
		}
		w.clear()
	case 0x0B:
		return api.Answer{Value: []byte("icehouse 1")}
	case 0x10:
		degraded := "0"
		if w.cold.degraded() {
			degraded = "1"
		}
		return api.Answer{Stats: []api.Stat{
			{Name: "items", Value: strconv.Itoa(len(w.all()))}, {Name: "charge", Value: strconv.Itoa(w.charge())},
			{Name: "entries", Value: strconv.Itoa(w.cold.len())}, {Name: "degraded", Value: degraded},
		}}
	case 0x40:
		return w.persist(now)
	}
	return api.Answer{}
}

func (w *words) persist(now uint32) api.Answer {
	if w.cold.degraded() {
		return api.Answer{Status: 0x84}
	}
	var done []string
	for _, x := range w.all() {
		if x.Dirty {
			w.cold.room(2, now)
			if w.cold.put(x) != api.OK {
				return api.Answer{Status: 0x84}
			}
			done = append(done, string(x.Key))
		}
	}
	if w.cold.sync() != api.OK {
		return api.Answer{Status: 0x84}
	}
	for _, key := range done {
		w.clean(key)
	}
	return api.Answer{}
}

// expiryByWords is the expiry of a wish.
func expiryByWords(now, wish uint32) uint32 {
	if wish == 0 || wish > 2592000 {
		return wish
	}
	return uint32(min(uint64(now)+uint64(wish), 1<<32-1))
}

// turnByWords is what a number's text is turned to; false, if the value is none.
func turnByWords(value []byte, by uint64, down bool) (uint64, bool) {
	if len(value) < 1 || len(value) > 20 {
		return 0, false
	}
	for _, b := range value {
		if b < '0' || b > '9' {
			return 0, false
		}
	}
	n, _ := new(big.Int).SetString(string(value), 10)
	if !n.IsUint64() {
		return 0, false
	}
	step := new(big.Int).SetUint64(by)
	if !down {
		n.Add(n, step)
		return n.Mod(n, new(big.Int).Lsh(big.NewInt(1), 64)).Uint64(), true
	}
	if n.Cmp(step) < 0 {
		return 0, true
	}
	return n.Sub(n, step).Uint64(), true
}

func decimal(n uint64) []byte { return []byte(new(big.Int).SetUint64(n).String()) }

// own is the same bytes in memory of their own.
func own(b []byte) []byte { return []byte(string(b)) }

// realRam is the program's Ram.
type realRam struct{ m *ram.Ram }

func (r realRam) get(key string) (api.Item, bool) {
	x, err := r.m.Get([]byte(key))
	return x, err == api.OK
}

func (r realRam) put(x api.Item) []api.Item {
	out, _ := r.m.Put(x)
	return out
}

func (r realRam) remove(key string) { r.m.Remove([]byte(key)) }

func (r realRam) clean(key string) { r.m.Clean([]byte(key)) }

func (r realRam) clear() { r.m.Clear() }

func (r realRam) charge() int { return r.m.Charge() }

func (r realRam) all() []api.Item {
	var l []api.Item
	for x := range r.m.All() {
		l = append(l, x)
	}
	return l
}

// realStore is the program's Store.
type realStore struct{ s *store.Store }

func (r realStore) get(key string, now uint32) (api.Item, api.Errno) {
	return r.s.Get([]byte(key), now)
}

func (r realStore) put(x api.Item) api.Errno { return r.s.Put(x) }

func (r realStore) may(key string) bool { return r.s.May([]byte(key)) }

func (r realStore) kill(key string, seq uint64) api.Errno { return r.s.Kill([]byte(key), seq) }

func (r realStore) flush(seq uint64) api.Errno { return r.s.Flush(seq) }

func (r realStore) sync() api.Errno { return r.s.Sync() }

func (r realStore) degraded() bool { return r.s.Degraded() }

func (r realStore) len() int { return r.s.Len() }

func (r realStore) room(n int, now uint32) api.Errno {
	_, err := clean.Room(r.s, n, now)
	return err
}

func (r realStore) reserved() uint64 { return r.s.Log().Super().Get().Reserved }

func (r realStore) reserve(upTo uint64) api.Errno {
	x := r.s.Log().Super().Get()
	x.Reserved = upTo
	return r.s.Log().Super().Set(x)
}
