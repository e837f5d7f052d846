package recover_test

import (
	"bytes"
	"math"
	"reflect"
	"slices"
	"strconv"
	"testing"

	"icehouse/api"
	"icehouse/recover"
)

// countByWords tells of each segment whether it counts.
func countByWords(x api.Super, l []api.Scan) []bool {
	out := make([]bool, len(l))
	for i, s := range l {
		out[i] = s.Generation > x.Retired && s.Generation <= x.Generation
		for j := range i {
			if out[j] && l[j].Generation == s.Generation {
				out[i] = false
			}
		}
	}
	return out
}

// knownByWords tells whether that may be known.
func knownByWords(x api.Super) bool {
	return x.Segments >= 4 && x.Segments <= 16 && x.Sectors >= 24 && x.Sectors <= 64 && x.Retired <= x.Generation
}

func ringByWords(x api.Super, l []api.Scan) (api.Ring, api.Errno) {
	if len(l) != x.Segments || !knownByWords(x) {
		return api.Ring{}, api.ErrArg
	}
	r := api.Ring{Sectors: x.Sectors}
	for i, counts := range countByWords(x, l) {
		switch used := l[i].Used; {
		case !counts:
			r.Segs = append(r.Segs, api.Seg{})
		case used < 1:
			r.Segs = append(r.Segs, api.Seg{State: 2, Generation: l[i].Generation, Used: 1})
		case used > x.Sectors:
			r.Segs = append(r.Segs, api.Seg{State: 2, Generation: l[i].Generation, Used: x.Sectors})
		default:
			r.Segs = append(r.Segs, api.Seg{State: 2, Generation: l[i].Generation, Used: used})
		}
	}
	return r, api.OK
}

// recordByWords tells whether a record may be.
func recordByWords(r api.Record) bool {
	if r.Seq == 0 || len(r.Key) == 0 || len(r.Key) > 250 || len(r.Value) > 512 {
		return false
	}
	return r.Kind == 1 || r.Kind == 2 && r.Flags == 0 && r.Expiry == 0 && len(r.Value) == 0
}

// recordsByWords are the records behind a crash.
func recordsByWords(x api.Super, l []api.Scan) []api.Placed {
	var out []api.Placed
	counts := countByWords(x, l)
	for slices.Contains(counts, true) {
		next := slices.Index(counts, true)
		for i := range l {
			if counts[i] && l[i].Generation < l[next].Generation {
				next = i
			}
		}
		counts[next] = false
		for _, p := range l[next].Records {
			if recordByWords(p.Record) {
				p.Address.Segment = next
				out = append(out, p)
			}
		}
	}
	return out
}

func judgeByWords(x api.Super, l []api.Scan) ([]api.Placed, api.Report, api.Errno) {
	if len(l) != x.Segments || !knownByWords(x) {
		return nil, api.Report{}, api.ErrArg
	}
	var live []api.Placed
	var report api.Report
	for _, counts := range countByWords(x, l) {
		if counts {
			report.Segments++
		}
	}
	all := recordsByWords(x, l)
	of := map[string][]int{}
	for i, p := range all {
		of[string(p.Record.Key)] = append(of[string(p.Record.Key)], i)
	}
	for i, p := range all {
		outdone := slices.ContainsFunc(of[string(p.Record.Key)], func(j int) bool {
			seq := all[j].Record.Seq
			return seq > p.Record.Seq || seq == p.Record.Seq && j > i
		})
		switch {
		case p.Record.Kind == 2:
			report.Tombs++
		case outdone || p.Record.Seq <= x.Flush:
			report.Gone++
		default:
			live = append(live, p)
			report.Items++
		}
	}
	return live, report, api.OK
}

// ringOf asks for the ring, holds it against the words, and tells it. What is handed in must stay as it is, and nothing of it is kept.
func ringOf(t *testing.T, x api.Super, l []api.Scan) (api.Ring, api.Errno) {
	t.Helper()
	handed := lentScans(l)
	r, err := recover.Ring(x, handed)
	giveBack(t, handed, l)
	asked, askedErr := ringByWords(x, l)
	if err != askedErr || r.Sectors != asked.Sectors || !slices.Equal(r.Segs, asked.Segs) {
		t.Fatalf("Ring of %v, %s is %v, error %d; asked is %v, error %d", x, inShort(l), r, err, asked, askedErr)
	}
	return asked, err
}

// judge asks for what lives, twice, as it must not hang on the order of a map, holds it against the words, and tells it. Nothing of what is handed in is kept, and no two lists of what is told share memory.
func judge(t *testing.T, x api.Super, l []api.Scan) ([]api.Placed, api.Report, api.Errno) {
	t.Helper()
	asked, askedReport, askedErr := judgeByWords(x, l)
	handed := lentScans(l)
	elder, _, _ := recover.Judge(x, handed)
	live, report, err := recover.Judge(x, handed)
	for _, p := range elder {
		turn(p.Record.Key)
		turn(p.Record.Value)
	}
	giveBack(t, handed, l)
	if report != askedReport || err != askedErr || !samePlaced(live, asked) {
		t.Fatalf("Judge of %v, %s is %v, %v, error %d; asked is %v, %v, error %d", x, inShort(l), live, report, err, asked, askedReport, askedErr)
	}
	// What two lists share would be turned twice.
	want := slices.Clone(asked)
	for i, p := range live {
		want[i].Record.Key, want[i].Record.Value = bytes.Clone(p.Record.Key), bytes.Clone(p.Record.Value)
		turn(want[i].Record.Key[:len(p.Record.Key):len(p.Record.Key)])
		turn(want[i].Record.Value[:len(p.Record.Value):len(p.Record.Value)])
	}
	for _, p := range live {
		turn(p.Record.Key)
		turn(p.Record.Value)
	}
	if !samePlaced(live, want) {
		t.Fatal("two lists that are told share memory")
	}
	return asked, report, err
}

// samePlaced tells whether both are the same; nil and empty lists are.
func samePlaced(a, b []api.Placed) bool {
	return slices.EqualFunc(a, b, func(p, q api.Placed) bool {
		return p.Address == q.Address && sameRecord(p.Record, q.Record)
	})
}

func sameRecord(a, b api.Record) bool {
	return a.Kind == b.Kind && a.Flags == b.Flags && a.Expiry == b.Expiry && a.Seq == b.Seq && bytes.Equal(a.Key, b.Key) && bytes.Equal(a.Value, b.Value)
}

// behind is what stands in the room behind a lent list's end.
var behind = []byte("not yours to touch")

// lent is the same list, with those behind its end; nil stays nil.
func lent[T any](l []T, behind ...T) []T {
	if l == nil {
		return nil
	}
	return slices.Concat(l, behind)[:len(l)]
}

func lentPlaced(p api.Placed) api.Placed {
	p.Record.Key, p.Record.Value = lent(p.Record.Key, behind...), lent(p.Record.Value, behind...)
	return p
}

func lentScans(l []api.Scan) []api.Scan {
	out := lent(l, api.Scan{Generation: math.MaxUint64, Used: -7})
	for i, s := range out {
		out[i].Records = lent(s.Records, put(99, "not yours", 1))
		for j, p := range out[i].Records {
			out[i].Records[j] = lentPlaced(p)
		}
	}
	return out
}

// giveBack tells whether lent scans are as they were, with what stands behind each end, and spoils them.
func giveBack(t *testing.T, handed, was []api.Scan) {
	t.Helper()
	again := lentScans(was)
	if !reflect.DeepEqual(whole(handed), whole(again)) {
		t.Fatalf("%s was handed in, and is %s now", inShort(was), inShort(handed))
	}
	for i := range handed {
		for j := range handed[i].Records {
			p := handed[i].Records[j]
			turn(p.Record.Key)
			turn(p.Record.Value)
			handed[i].Records[j] = api.Placed{}
		}
		handed[i] = api.Scan{}
	}
}

// whole is each list with the room behind its end.
func whole(l []api.Scan) []api.Scan {
	if l == nil {
		return nil
	}
	l = slices.Clone(l[:len(l)+1])
	for i, s := range l[:len(l)-1] {
		if s.Records == nil {
			continue
		}
		l[i].Records = slices.Clone(s.Records[:len(s.Records)+1])
		for j, p := range s.Records {
			if k := p.Record.Key; k != nil {
				l[i].Records[j].Record.Key = k[:len(k)+len(behind)]
			}
			if v := p.Record.Value; v != nil {
				l[i].Records[j].Record.Value = v[:len(v)+len(behind)]
			}
		}
	}
	return l
}

// turn changes each byte of the list, and of the room behind it.
func turn(b []byte) {
	b = b[:cap(b)]
	for i := range b {
		b[i] ^= 0x5A
	}
}

// put is an item at that sector, whose value tells its sequence.
func put(sector int, key string, seq uint64) api.Placed {
	r := api.Record{Kind: 1, Flags: uint32(seq * 77), Expiry: uint32(seq % 3), Seq: seq, Key: []byte(key)}
	for i := range seq % 5 {
		r.Value = append(r.Value, byte(seq*31+i))
	}
	return api.Placed{Address: api.Address{Sector: sector}, Record: r}
}

// killed is a tombstone at that sector.
func killed(sector int, key string, seq uint64) api.Placed {
	return api.Placed{Address: api.Address{Sector: sector}, Record: api.Record{Kind: 2, Seq: seq, Key: []byte(key)}}
}

// scan is one of that generation, with these records.
func scan(generation uint64, l ...api.Placed) api.Scan {
	s := api.Scan{Generation: generation, Used: 1 + len(l), Records: l}
	for i := range l {
		l[i].Address.Generation = generation
	}
	return s
}

// inShort are scans, for who reads why a test fails.
func inShort(l []api.Scan) string {
	var b bytes.Buffer
	for _, s := range l {
		b.WriteString("[generation " + number(s.Generation) + ":")
		for _, p := range s.Records {
			b.WriteString(" " + []string{"none ", "item ", "tomb "}[max(0, min(p.Record.Kind, 2))%3] + string(p.Record.Key[:min(len(p.Record.Key), 12)]) + " " + number(p.Record.Seq))
		}
		b.WriteString("]")
	}
	return b.String()
}

func number(n uint64) string { return strconv.FormatUint(n, 10) }

// drawn are numbers told by a rule, the same in every run.
type drawn struct{ last uint64 }

// below tells a number from 0 to n - 1.
func (d *drawn) below(n int) int {
	d.last = d.last*6364136223846793005 + 1442695040888963407
	return int(d.last >> 33 % uint64(n))
}
