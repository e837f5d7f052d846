package tier_test

import (
	"slices"
	"testing"

	"icehouse/api"
)

// version is what a key may have.
type version struct {
	value         string
	flags, expiry uint32
	cas           uint64
}

// ideal is what a cache may answer that forgets at any time, by the answers alone: the versions that each key may have now, and behind a crash; besides, each may always have nothing.
type ideal struct {
	now, safe map[string][]version
	token     uint64
}

func newIdeal() *ideal { return &ideal{map[string][]version{}, map[string][]version{}, 0} }

// crashed is what may be told behind a crash.
func (m *ideal) crashed() *ideal {
	y := newIdeal()
	y.token = m.token
	for key, l := range m.safe {
		y.now[key], y.safe[key] = slices.Clone(l), slices.Clone(l)
	}
	return y
}

// written says that the key was written with these versions.
func (m *ideal) written(key string, cas uint64, l ...version) {
	for i := range l {
		l[i].cas = cas
	}
	m.now[key], m.safe[key] = l, slices.Clone(l)
}

// refusedAs is the status with which a request is refused ahead of all else; 0, if it is not.
func refusedAs(q api.Request) int {
	isKeyed := slices.Contains(keyed, q.Op)
	switch {
	case q.Bad != 0:
		return q.Bad
	case !isKeyed && !slices.Contains(keyless, q.Op):
		return 0x81
	case isKeyed && (len(q.Key) == 0 || len(q.Key) > 250):
		return 4
	case valued[q.Op] && len(q.Value) > 512:
		return 3
	}
	return 0
}

// asks holds an answer against what may be answered; what it tells is so from then on.
func (m *ideal) asks(t *testing.T, q api.Request, a api.Answer, now uint32) {
	t.Helper()
	key := string(q.Key)
	if !m.step(q, a, now) {
		t.Fatalf("%s at %d is %s; it may have %v", wished(q), now, told(a), m.now[key])
	}
}

func (m *ideal) step(q api.Request, a api.Answer, now uint32) bool {
	refused := refusedAs(q)
	bare := sameAnswer(a, status(a.Status))
	switch {
	case refused != 0:
		return bare && a.Status == refused
	case a.Status == 0x84:
		return bare && (slices.Contains(keyed, q.Op) || q.Op == 0x08 || q.Op == 0x40)
	case slices.Contains(keyless, q.Op):
		return m.keyless(q, a)
	}
	key := string(q.Key)
	// What may be told, and what of it has the request's token.
	may := slices.DeleteFunc(slices.Clone(m.now[key]), func(v version) bool { return v.expiry > 0 && v.expiry <= now })
	fit, unfit := may, []version(nil)
	if q.Cas != 0 && q.Op != 0x00 && q.Op != 0x1C && q.Op != 0x1D && q.Op != 0x02 {
		fit = slices.DeleteFunc(slices.Clone(may), func(v version) bool { return v.cas != q.Cas })
		unfit = slices.DeleteFunc(slices.Clone(may), func(v version) bool { return v.cas == q.Cas })
	}
	missed := map[int]int{0x00: 1, 0x1C: 1, 0x1D: 1, 0x03: 1, 0x04: 1, 0x0E: 5, 0x0F: 5}[q.Op]
	if q.Op == 0x01 && q.Cas != 0 || (q.Op == 0x05 || q.Op == 0x06) && q.Expiry == 1<<32-1 {
		missed = 1
	}
	switch {
	case missed != 0 && a.Status == missed:
		m.now[key] = nil
		return bare
	case a.Status == 2 && q.Op == 0x02:
		m.now[key] = may
		return bare && len(may) > 0
	case a.Status == 2:
		m.now[key] = unfit
		return bare && len(unfit) > 0
	case a.Status == 0x06 && (q.Op == 0x05 || q.Op == 0x06):
		m.now[key] = slices.DeleteFunc(fit, func(v version) bool { _, ok := turnByWords([]byte(v.value), 0, false); return ok })
		return bare && len(m.now[key]) > 0
	case a.Status == 0x03 && (q.Op == 0x0E || q.Op == 0x0F):
		m.now[key] = slices.DeleteFunc(fit, func(v version) bool { return len(v.value)+len(q.Value) <= 512 })
		return bare && len(m.now[key]) > 0
	case a.Status != 0:
		return false
	}
	return m.done(q, a, now, may, fit)
}

// keyless is what has no key, and was not refused.
func (m *ideal) keyless(q api.Request, a api.Answer) bool {
	switch q.Op {
	case 0x07:
		return sameAnswer(a, api.Answer{Close: true})
	case 0x08:
		if q.Expiry != 0 {
			return sameAnswer(a, status(4))
		}
		clear(m.now)
		clear(m.safe)
	case 0x0B:
		return sameAnswer(a, api.Answer{Value: []byte("icehouse 1")})
	case 0x10:
		names := []string{"items", "charge", "entries", "degraded"}
		for i, x := range a.Stats {
			if _, ok := turnByWords([]byte(x.Value), 0, false); i > 3 || x.Name != names[i] || !ok {
				return false
			}
		}
		ok := len(a.Stats) == 4
		a.Stats = nil
		return ok && sameAnswer(a, api.Answer{})
	}
	return sameAnswer(a, api.Answer{})
}

// done is what is OK.
func (m *ideal) done(q api.Request, a api.Answer, now uint32, may, fit []version) bool {
	key := string(q.Key)
	next := version{value: string(q.Value), flags: q.Flags, expiry: expiryByWords(now, q.Expiry)}
	// Besides the token an answer tells what its command has.
	plain := api.Answer{Cas: a.Cas}
	if q.Op == 0x00 || q.Op == 0x1D {
		plain.Value, plain.Flags = a.Value, a.Flags
		may = slices.DeleteFunc(may, func(v version) bool { return v.value != string(a.Value) || v.flags != a.Flags })
	}
	if q.Op == 0x05 || q.Op == 0x06 {
		plain.Number = a.Number
	}
	if !sameAnswer(a, plain) {
		return false
	}
	switch q.Op {
	case 0x00:
		m.now[key] = slices.DeleteFunc(may, func(v version) bool { return v.cas != a.Cas })
		return len(m.now[key]) > 0
	case 0x04:
		delete(m.now, key)
		delete(m.safe, key)
		return len(fit) > 0 && a.Cas == 0
	}
	if a.Cas <= m.token {
		return false
	}
	m.token = a.Cas
	l := []version{next}
	switch q.Op {
	case 0x1C, 0x1D:
		for i := range may {
			may[i].expiry = next.expiry
		}
		l = may
	case 0x01, 0x03:
		if q.Op == 0x03 || q.Cas != 0 {
			l = slices.Repeat(l, min(len(fit), 1))
		}
	case 0x0E, 0x0F:
		l = nil
		for _, v := range fit {
			if v.value += next.value; q.Op == 0x0F {
				v.value = next.value + v.value[:len(v.value)-len(next.value)]
			}
			if len(v.value) <= 512 {
				l = append(l, v)
			}
		}
	case 0x05, 0x06:
		l = nil
		if a.Number == q.Initial && q.Expiry != 1<<32-1 {
			l = append(l, version{value: number(a.Number), expiry: next.expiry})
		}
		for _, v := range fit {
			if n, ok := turnByWords([]byte(v.value), q.Delta, q.Op == 0x06); ok && n == a.Number {
				v.value = number(n)
				l = append(l, v)
			}
		}
	}
	m.written(key, a.Cas, l...)
	return len(l) > 0
}
