package rec_test

import (
	"encoding/hex"
	"math"
	"math/rand"
	"reflect"
	"slices"
	"strings"
	"testing"

	"splice/api"
	"splice/chart"
	"splice/mut"
	"splice/rec"
	"splice/table"
	"splice/vint"
)

// bytes are those that stand as hexadecimal numbers.
func bytes(t *testing.T, l string) string {
	t.Helper()
	b, err := hex.DecodeString(strings.ReplaceAll(l, " ", ""))
	if err != nil {
		t.Fatal(err)
	}
	return string(b)
}

// nums, and the others that begin with raw, write what the chapter says one
// part after the other, whether it may be or not.
func nums(l ...int) string {
	s := ""
	for _, n := range l {
		s += vint.Num(n)
	}
	return s
}

func rawPairs(l []api.Pair) string {
	s := nums(len(l))
	for _, p := range l {
		s += nums(p.Key) + vint.Whole(p.Val)
	}
	return s
}

func rawMut(m api.Mut) string {
	s := nums(m.Client, m.Seq, m.Kind) + rawPairs(m.Pairs)
	switch m.Kind {
	case api.MutDel:
		s += nums(m.Over.Lo, m.Over.Hi)
	case api.MutCas:
		s += vint.Whole(m.Old)
	}
	return vint.Text(s)
}

func rawMayBeMut(m api.Mut) string {
	if reflect.DeepEqual(m, api.Mut{}) {
		return nums(0)
	}
	return rawMut(m)
}

func rawMayBeChart(c api.Chart) string {
	if reflect.DeepEqual(c, api.Chart{}) {
		return nums(0)
	}
	s := nums(c.Epoch, c.Next, len(c.L))
	for _, x := range c.L {
		s += nums(x.ID, x.Keys.Hi, x.Node)
	}
	return vint.Text(s)
}

func rawEntries(l []api.Entry) string {
	s := nums(len(l))
	for _, e := range l {
		s += rawMut(e.M) + nums(e.Time) + vint.Flag(e.Done)
	}
	return s
}

func rawKnown(l []api.Known) string {
	s := nums(len(l))
	for _, k := range l {
		s += nums(k.Client, k.Seq, k.Time) + vint.Flag(k.Done)
	}
	return s
}

func rawCore(c api.Core) string {
	s := nums(c.ID, c.Keys.Lo, c.Keys.Hi, c.Clock) + vint.Flag(c.Frozen) + vint.Flag(c.Sealed) + nums(len(c.Held))
	for _, h := range c.Held {
		s += rawMut(h.M) + nums(h.Time) + vint.Flag(h.Final)
	}
	return s + rawEntries(c.Log) + rawKnown(c.Known) + vint.Text(rawPairs(c.Base))
}

func rawRecord(r api.Rec) string {
	s := nums(r.Kind, r.Shard, r.Client, r.Seq, r.Time) + rawMayBeMut(r.M) + rawMayBeChart(r.Chart)
	if reflect.DeepEqual(r.Core, api.Core{}) {
		return s + nums(0)
	}
	return s + vint.Text(rawCore(r.Core))
}

func rawNote(n api.Note) string {
	s := nums(n.Kind, n.From, n.To, n.Client, n.Seq) + vint.Whole(n.Time) + vint.Whole(n.N) + vint.Flag(n.Ask) + vint.Flag(n.Done)
	s += rawMayBeMut(n.M) + vint.Text(rawPairs(n.Pairs)) + rawEntries(n.Entries) + rawKnown(n.Known) + nums(len(n.Cores))
	for _, c := range n.Cores {
		s += vint.Text(rawCore(c))
	}
	return s + rawMayBeChart(n.Chart)
}

// mutations are one of each kind.
func mutations() []api.Mut {
	return []api.Mut{
		{Client: 1, Seq: 2, Kind: api.MutPut, Pairs: []api.Pair{{Key: 5, Val: 7}, {Key: 300, Val: -1}}},
		{Client: 1, Seq: 2, Kind: api.MutDel, Over: api.Span{Lo: 2, Hi: 9}},
		{Client: api.MaxClient, Seq: api.MaxSeq, Kind: api.MutAdd, Pairs: []api.Pair{{Key: 4095, Val: -api.MaxVal}}},
		{Client: 3, Seq: 1, Kind: api.MutCas, Pairs: []api.Pair{{Key: 0, Val: api.MaxVal}}, Old: api.Absent},
		{Client: 4, Seq: 9, Kind: api.MutMove, Pairs: []api.Pair{{Key: 9, Val: 3}, {Key: 4, Val: 3}}},
	}
}

// del is the mutation of the chapter's example.
func del() api.Mut {
	return mutations()[1]
}

// sampleCore is a core none of whose fields is zero.
func sampleCore() api.Core {
	l := mutations()
	return api.Core{
		ID: 7, Keys: api.Span{Lo: 2, Hi: 3000}, Clock: 400, Frozen: true, Sealed: true,
		Held:  []api.Wait{{M: l[0], Time: 4}, {M: l[4], Time: 5, Final: true}},
		Base:  []api.Pair{{Key: 1, Val: 2}, {Key: 9, Val: -3}},
		Log:   []api.Entry{{M: l[1], Time: 3, Done: true}, {M: l[2], Time: 1}},
		Known: []api.Known{{Client: 1, Seq: 1, Time: 2}, {Client: 8, Seq: 300, Time: 1, Done: true}},
	}
}

func sampleChart() api.Chart {
	c, _ := chart.First(2, 3)
	return c
}

// sampleRecord and sampleNote have no field that is zero, either.
func sampleRecord() api.Rec {
	return api.Rec{Kind: api.RecShard, Shard: 3, Client: 4, Seq: 5, Time: 6, M: mutations()[3], Core: sampleCore(), Chart: sampleChart()}
}

func sampleNote() api.Note {
	second := sampleCore()
	second.ID = 8
	return api.Note{
		Kind: api.NoteSealed, From: 1, To: 2, Client: 3, Seq: 4, Time: 5, N: 6, Ask: true, Done: true, M: mutations()[4],
		Pairs: []api.Pair{{Key: 0, Val: -1}, {Key: 4095, Val: 64}}, Entries: sampleCore().Log, Known: sampleCore().Known,
		Cores: []api.Core{sampleCore(), second}, Chart: sampleChart(),
	}
}

// badMutations, badTables and badCharts may not be; nor may they be absent.
func badMutations() []api.Mut {
	return []api.Mut{
		{Client: 1}, {Seq: 1}, {Kind: 1}, {Client: 1, Seq: 1, Kind: 6}, {Seq: 2, Kind: 2, Over: api.Span{Lo: 2, Hi: 9}},
		{Client: 1, Seq: 2, Kind: 2, Over: api.Span{Lo: 9, Hi: 2}}, {Client: 1, Seq: 2, Kind: 1}, {Client: 1, Seq: 2, Kind: 1, Pairs: []api.Pair{{Key: 2}, {Key: 1}}},
		{Client: 1, Seq: 2, Kind: 2, Pairs: []api.Pair{{Key: 5}}, Over: api.Span{Lo: 2, Hi: 9}}, {Client: api.MaxClient + 1, Seq: 1, Kind: 2, Over: api.Span{Lo: 2, Hi: 9}},
		{Pairs: []api.Pair{{}}},
	}
}

func badTables() [][]api.Pair {
	return [][]api.Pair{{{Key: 2}, {Key: 1}}, {{Key: 4096}}, {{Key: 1}, {Key: 1}}, {{Key: 1, Val: api.MaxVal + 1}}, {{Key: 1, Val: -api.MaxVal - 1}}}
}

func badCharts() []api.Chart {
	var l []api.Chart
	for _, spoil := range []func(c *api.Chart){
		func(c *api.Chart) { c.Epoch = 0 }, func(c *api.Chart) { c.Next = 3 }, func(c *api.Chart) { c.L = nil },
		func(c *api.Chart) { c.L = c.L[:2] }, func(c *api.Chart) { c.L[1].Node = 5 }, func(c *api.Chart) { c.L[1].ID = 1 },
	} {
		c := sampleChart()
		spoil(&c)
		l = append(l, c)
	}
	return append(l, api.Chart{Epoch: 1}, api.Chart{Next: 1}, api.Chart{L: sampleChart().L})
}

// many is a list of so many.
func many[T any](n int, x T) []T {
	return slices.Repeat([]T{x}, n)
}

func goodCores() []api.Core {
	c := sampleCore()
	l := []api.Core{c, {ID: 1, Keys: api.Span{Hi: 1}}, {ID: 1, Keys: api.Span{Lo: 4095, Hi: 4096}}}
	for _, alter := range []func(c *api.Core){
		func(c *api.Core) { c.ID = api.MaxShard }, func(c *api.Core) { c.Clock = api.MaxTime }, func(c *api.Core) { c.Clock = 0 },
		func(c *api.Core) { c.Frozen = false }, func(c *api.Core) { c.Sealed = false },
		func(c *api.Core) { c.Held = nil }, func(c *api.Core) { c.Log = nil }, func(c *api.Core) { c.Known = nil }, func(c *api.Core) { c.Base = nil },
		func(c *api.Core) { c.Held = many(1000, c.Held[1]) }, func(c *api.Core) { c.Log = many(1000, c.Log[1]) }, func(c *api.Core) { c.Known = many(1000, c.Known[1]) },
		func(c *api.Core) { c.Held[0].Time = 0 }, func(c *api.Core) { c.Held[1].Time = api.MaxTime },
		func(c *api.Core) { c.Log[0].Time = 0 }, func(c *api.Core) { c.Log[1].Time = api.MaxTime },
		func(c *api.Core) { c.Known[0] = api.Known{Client: 1, Seq: 1} }, func(c *api.Core) { c.Known[1] = api.Known{Client: api.MaxClient, Seq: api.MaxSeq, Time: api.MaxTime} },
		func(c *api.Core) { c.Log, c.Held = entriesOf(mutations()), waitsOf(mutations()) },
	} {
		c := sampleCore()
		alter(&c)
		l = append(l, c)
	}
	return l
}

func entriesOf(ms []api.Mut) []api.Entry {
	var l []api.Entry
	for i, m := range ms {
		l = append(l, api.Entry{M: m, Time: i})
	}
	return l
}

func waitsOf(ms []api.Mut) []api.Wait {
	var l []api.Wait
	for i, m := range ms {
		l = append(l, api.Wait{M: m, Time: i})
	}
	return l
}

// badCores may not be; the zero one is none of them.
func badCores() []api.Core {
	var l []api.Core
	for _, spoil := range []func(c *api.Core){
		func(c *api.Core) { c.ID = 0 }, func(c *api.Core) { c.ID = -1 }, func(c *api.Core) { c.ID = api.MaxShard + 1 }, func(c *api.Core) { c.ID = math.MaxInt },
		func(c *api.Core) { c.Keys.Lo = -1 }, func(c *api.Core) { c.Keys.Lo = 3000 }, func(c *api.Core) { c.Keys.Hi = 4097 }, func(c *api.Core) { c.Keys = api.Span{} },
		func(c *api.Core) { c.Clock = -1 }, func(c *api.Core) { c.Clock = api.MaxTime + 1 },
		func(c *api.Core) { c.Held = many(1001, c.Held[1]) }, func(c *api.Core) { c.Log = many(1001, c.Log[1]) }, func(c *api.Core) { c.Known = many(1001, c.Known[1]) },
		func(c *api.Core) { c.Held[0].Time = -1 }, func(c *api.Core) { c.Held[1].Time = api.MaxTime + 1 },
		func(c *api.Core) { c.Log[0].Time = -1 }, func(c *api.Core) { c.Log[1].Time = api.MaxTime + 1 },
		func(c *api.Core) { c.Known[0].Client = 0 }, func(c *api.Core) { c.Known[1].Client = api.MaxClient + 1 },
		func(c *api.Core) { c.Known[0].Seq = 0 }, func(c *api.Core) { c.Known[1].Seq = api.MaxSeq + 1 },
		func(c *api.Core) { c.Known[0].Time = -1 }, func(c *api.Core) { c.Known[1].Time = api.MaxTime + 1 },
		func(c *api.Core) { c.Held[0].M = api.Mut{} }, func(c *api.Core) { c.Log[1].M = api.Mut{} }, func(c *api.Core) { c.Known[0] = api.Known{} },
		func(c *api.Core) { *c = api.Core{Frozen: true} }, func(c *api.Core) { *c = api.Core{Sealed: true} }, func(c *api.Core) { *c = api.Core{Clock: 1} },
		func(c *api.Core) { *c = api.Core{ID: 1} }, func(c *api.Core) { *c = api.Core{Keys: api.Span{Hi: 1}} }, func(c *api.Core) { *c = api.Core{Base: c.Base} }, func(c *api.Core) { *c = api.Core{Held: c.Held} },
		func(c *api.Core) { *c = api.Core{Log: c.Log} }, func(c *api.Core) { *c = api.Core{Known: c.Known} },
	} {
		c := sampleCore()
		spoil(&c)
		l = append(l, c)
	}
	for _, m := range badMutations() {
		held, log := sampleCore(), sampleCore()
		held.Held[1].M, log.Log[1].M = m, m
		l = append(l, held, log)
	}
	for _, p := range badTables() {
		c := sampleCore()
		c.Base = p
		l = append(l, c)
	}
	return l
}

func goodRecords() []api.Rec {
	l := []api.Rec{sampleRecord(), {Kind: api.RecWait, Shard: 3, Time: 5, M: del()}}
	for kind := api.RecWait; kind <= api.RecChart; kind++ {
		l = append(l, api.Rec{Kind: kind}, api.Rec{Kind: kind, Shard: api.MaxShard, Client: api.MaxClient, Seq: api.MaxSeq, Time: api.MaxTime})
	}
	for _, m := range mutations() {
		l = append(l, api.Rec{Kind: api.RecWait, M: m})
	}
	for _, c := range goodCores() {
		l = append(l, api.Rec{Kind: api.RecShard, Core: c})
	}
	return append(l, api.Rec{Kind: api.RecChart, Chart: sampleChart()})
}

func badRecords() []api.Rec {
	var l []api.Rec
	for _, spoil := range []func(r *api.Rec){
		func(r *api.Rec) { r.Kind = 0 }, func(r *api.Rec) { r.Kind = -1 }, func(r *api.Rec) { r.Kind = 8 }, func(r *api.Rec) { *r = api.Rec{} },
		func(r *api.Rec) { r.Shard = -1 }, func(r *api.Rec) { r.Shard = api.MaxShard + 1 },
		func(r *api.Rec) { r.Client = -1 }, func(r *api.Rec) { r.Client = api.MaxClient + 1 },
		func(r *api.Rec) { r.Seq = -1 }, func(r *api.Rec) { r.Seq = api.MaxSeq + 1 },
		func(r *api.Rec) { r.Time = -1 }, func(r *api.Rec) { r.Time = api.MaxTime + 1 },
	} {
		r := sampleRecord()
		spoil(&r)
		l = append(l, r)
	}
	for _, m := range badMutations() {
		l = append(l, api.Rec{Kind: api.RecWait, M: m})
	}
	for _, c := range badCharts() {
		l = append(l, api.Rec{Kind: api.RecChart, Chart: c})
	}
	for _, c := range badCores() {
		l = append(l, api.Rec{Kind: api.RecShard, Core: c})
	}
	return l
}

func goodNotes() []api.Note {
	l := []api.Note{sampleNote(), {Kind: api.NoteSealed, Time: -1, N: -1}, {Kind: 1, Ask: true}, {Kind: 1, Done: true}}
	for kind := api.NotePush; kind <= api.NoteBegun; kind++ {
		l = append(l, api.Note{Kind: kind}, api.Note{Kind: kind, From: api.MaxShard, To: api.MaxShard, Client: api.MaxClient, Seq: api.MaxSeq, Time: api.MaxTime, N: api.MaxShard})
	}
	for _, m := range mutations() {
		l = append(l, api.Note{Kind: api.NotePush, M: m})
	}
	for _, c := range goodCores() {
		l = append(l, api.Note{Kind: api.NoteShard, Cores: []api.Core{c}}, api.Note{Kind: api.NotePage, Entries: c.Log, Known: c.Known, Pairs: c.Base})
	}
	return append(l, api.Note{Kind: api.NoteChart, Chart: sampleChart()})
}

func badNotes() []api.Note {
	var l []api.Note
	for _, spoil := range []func(n *api.Note){
		func(n *api.Note) { n.Kind = 0 }, func(n *api.Note) { n.Kind = -1 }, func(n *api.Note) { n.Kind = 14 }, func(n *api.Note) { *n = api.Note{} },
		func(n *api.Note) { n.From = -1 }, func(n *api.Note) { n.From = api.MaxShard + 1 },
		func(n *api.Note) { n.To = -1 }, func(n *api.Note) { n.To = api.MaxShard + 1 },
		func(n *api.Note) { n.Client = -1 }, func(n *api.Note) { n.Client = api.MaxClient + 1 },
		func(n *api.Note) { n.Seq = -1 }, func(n *api.Note) { n.Seq = api.MaxSeq + 1 },
		func(n *api.Note) { n.Time = -2 }, func(n *api.Note) { n.Time = api.MaxTime + 1 },
		func(n *api.Note) { n.N = -2 }, func(n *api.Note) { n.N = api.MaxShard + 1 },
		func(n *api.Note) { n.Entries = many(1001, n.Entries[0]) }, func(n *api.Note) { n.Known = many(1001, n.Known[0]) },
		func(n *api.Note) { n.Entries[0].Time = -1 }, func(n *api.Note) { n.Known[1].Seq = 0 },
		func(n *api.Note) { n.Cores = many(3, n.Cores[0]) }, func(n *api.Note) { n.Cores[1] = api.Core{} },
	} {
		n := sampleNote()
		spoil(&n)
		l = append(l, n)
	}
	for _, m := range badMutations() {
		l = append(l, api.Note{Kind: api.NotePush, M: m}, api.Note{Kind: api.NotePage, Entries: []api.Entry{{M: del()}, {M: m}}})
	}
	for _, p := range badTables() {
		l = append(l, api.Note{Kind: api.NoteState, Pairs: p})
	}
	for _, c := range badCharts() {
		l = append(l, api.Note{Kind: api.NoteChart, Chart: c})
	}
	for _, c := range badCores() {
		l = append(l, api.Note{Kind: api.NoteSealed, Cores: []api.Core{sampleCore(), c}})
	}
	return l
}

// coding is how one kind of value is written and read.
type coding[T any] struct {
	text func(T) string
	read func(string) (T, api.Errno)
	raw  func(T) string
}

func cores() coding[api.Core] {
	return coding[api.Core]{text: rec.Core, read: rec.ReadCore, raw: rawCore}
}

func records() coding[api.Rec] {
	return coding[api.Rec]{text: rec.Record, read: rec.ReadRecord, raw: rawRecord}
}

func notes() coding[api.Note] {
	return coding[api.Note]{text: rec.Note, read: rec.ReadNote, raw: rawNote}
}

// checkGood asks that a value has just its bytes, and comes back from them.
func (c coding[T]) checkGood(t *testing.T, x T) {
	t.Helper()
	s := c.text(x)
	if s == "" || s != c.raw(x) {
		t.Errorf("%+v: bytes %x, want %x", x, s, c.raw(x))
	}
	back, e := c.read(s)
	if e != api.OK || !reflect.DeepEqual(back, x) {
		t.Errorf("%x: %+v, %v, want %+v", s, back, e, x)
	}
}

// checkBad asks that a value has no bytes, and that the bytes that it would have hold nothing.
func (c coding[T]) checkBad(t *testing.T, x T) {
	t.Helper()
	if s := c.text(x); s != "" {
		t.Errorf("%+v: bytes %x", x, s)
	}
	c.checkNot(t, c.raw(x))
}

func (c coding[T]) checkNot(t *testing.T, s string) {
	t.Helper()
	var none T
	if x, e := c.read(s); e != api.ErrForm || !reflect.DeepEqual(x, none) {
		t.Errorf("%x: %+v, %v, want ErrForm", s, x, e)
	}
}

// checkBytes asks that bytes hold a value whose bytes they are, or nothing.
func (c coding[T]) checkBytes(t *testing.T, s string) {
	t.Helper()
	x, e := c.read(s)
	if e != api.OK {
		c.checkNot(t, s)
	} else if c.text(x) != s {
		t.Errorf("%x: read as %+v, which is %x", s, x, c.text(x))
	}
}

// checkAround asks for bytes that are a little less, more or other than some.
func (c coding[T]) checkAround(t *testing.T, s string) {
	t.Helper()
	for i := range len(s) {
		c.checkNot(t, s[:i])
		for _, b := range []byte{0, 1, 2, 0x7f, 0x80, 0xff, s[i] + 1, s[i] - 1, s[i] ^ 0x80} {
			c.checkBytes(t, s[:i]+string([]byte{b})+s[i+1:])
		}
		c.checkBytes(t, s[:i]+s[i+1:])
		c.checkBytes(t, s[:i]+"\x00"+s[i:])
	}
	for _, behind := range []string{"\x00", "\x01", s} {
		c.checkNot(t, s+behind)
	}
}

// Promise 11.1: the chapter's examples, and parts in the chapter's order.
func TestExamples(t *testing.T) {
	for _, x := range []struct {
		r    api.Rec
		text string
	}{
		{api.Rec{Kind: api.RecWait, Shard: 3, Time: 5, M: del()}, "01 03 00 00 05 06 01 02 02 00 02 09 00 00"},
		{api.Rec{Kind: api.RecFreeze, Shard: 3}, "04 03 00 00 00 00 00 00"},
		{api.Rec{Kind: api.RecFinal, Shard: 300, Client: 1, Seq: 2, Time: 128}, "02 ac 02 01 02 80 01 00 00 00"},
		{api.Rec{Kind: api.RecChart, Chart: api.Chart{Epoch: 1, Next: 2, L: []api.Shard{{ID: 1, Keys: api.Span{Hi: 4096}, Node: 4}}}}, "07 00 00 00 00 00 07 01 02 01 01 80 20 04 00"},
		{api.Rec{Kind: api.RecShard, Core: api.Core{ID: 1, Keys: api.Span{Lo: 2, Hi: 3}}}, "06 00 00 00 00 00 00 0b 01 02 03 00 00 00 00 00 00 01 00"},
	} {
		if s := rec.Record(x.r); s != bytes(t, x.text) {
			t.Errorf("Record(%+v): %x, want %s", x.r, s, x.text)
		}
		if r, e := rec.ReadRecord(bytes(t, x.text)); e != api.OK || !reflect.DeepEqual(r, x.r) {
			t.Errorf("ReadRecord(%s): %+v, %v", x.text, r, e)
		}
	}
	records().checkNot(t, "")
	records().checkNot(t, bytes(t, "08 03 00 00 00 00 00 00"))
	if s := rec.Core(api.Core{}); s != "" {
		t.Errorf("the zero core: %x", s)
	}
	if s := rec.Note(api.Note{Kind: api.NoteSealed, Cores: many(3, sampleCore())}); s != "" {
		t.Errorf("three cores: %x", s)
	}
}

// Promise 11.1: a core's bytes, one by one.
func TestCoreBytes(t *testing.T) {
	c := api.Core{
		ID: 7, Keys: api.Span{Lo: 1, Hi: 9}, Clock: 4, Frozen: true, Held: []api.Wait{{M: del(), Time: 4, Final: true}},
		Base: []api.Pair{{Key: 1, Val: 2}}, Log: []api.Entry{{M: del(), Time: 3}}, Known: []api.Known{{Client: 1, Seq: 5, Time: 2, Done: true}},
	}
	want := "07 01 09 04 01 00" + "01 06 01 02 02 00 02 09 04 01" + "01 06 01 02 02 00 02 09 03 00" + "01 01 05 02 01" + "03 01 01 04"
	if s := rec.Core(c); s != bytes(t, want) {
		t.Errorf("Core: %x, want %s", s, want)
	}
	c.Frozen, c.Sealed, c.Held, c.Log, c.Known, c.Base = false, true, nil, nil, nil, nil
	if s := rec.Core(c); s != bytes(t, "07 01 09 04 00 01 00 00 00 01 00") {
		t.Errorf("Core: %x", s)
	}
}

// Promise 11.1: a note's bytes, one by one.
func TestNoteBytes(t *testing.T) {
	n := api.Note{
		Kind: api.NotePage, From: 1, To: 2, Client: 3, Seq: 4, Time: -1, N: 5, Ask: true, M: del(), Pairs: []api.Pair{{Key: 6, Val: -1}},
		Entries: []api.Entry{{M: del(), Time: 3, Done: true}}, Known: []api.Known{{Client: 1, Seq: 5, Time: 2}},
		Cores: []api.Core{{ID: 1, Keys: api.Span{Lo: 2, Hi: 3}}}, Chart: api.Chart{Epoch: 1, Next: 2, L: []api.Shard{{ID: 1, Keys: api.Span{Hi: 4096}}}},
	}
	want := "06 01 02 03 04 01 0a 01 00" + "06 01 02 02 00 02 09" + "03 01 06 01" + "01 06 01 02 02 00 02 09 03 01" + "01 01 05 02 00" +
		"01 0b 01 02 03 00 00 00 00 00 00 01 00" + "07 01 02 01 01 80 20 00"
	if s := rec.Note(n); s != bytes(t, want) {
		t.Errorf("Note: %x, want %s", s, want)
	}
	n = api.Note{Kind: api.NoteAck, Time: 5, N: -1, Done: true}
	if s := rec.Note(n); s != bytes(t, "04 00 00 00 00 0a 01 00 01 00 01 00 00 00 00 00") {
		t.Errorf("Note: %x", s)
	}
}

// Promise 11.1: what may be has its bytes and comes back from them (11.2); at the edges, too.
func TestGood(t *testing.T) {
	for _, c := range goodCores() {
		cores().checkGood(t, c)
	}
	for _, r := range goodRecords() {
		records().checkGood(t, r)
	}
	for _, n := range goodNotes() {
		notes().checkGood(t, n)
	}
}

// Promise 11.1: what may not be has no bytes, and no bytes hold it.
func TestBad(t *testing.T) {
	for _, c := range append(badCores(), api.Core{}) {
		cores().checkBad(t, c)
	}
	for _, r := range badRecords() {
		records().checkBad(t, r)
	}
	for _, n := range badNotes() {
		notes().checkBad(t, n)
	}
}

// Promise 11.1: a held mutation with peers has no bytes, wherever its core is.
func TestPeers(t *testing.T) {
	c := sampleCore()
	c.Held[1].Peers = []api.Peer{{Shard: 1, Time: 2}}
	if rec.Core(c) != "" || rec.Record(api.Rec{Kind: api.RecShard, Core: c}) != "" || rec.Note(api.Note{Kind: api.NoteSealed, Cores: []api.Core{c}}) != "" {
		t.Errorf("a held mutation with peers has bytes")
	}
	c.Held[1].Peers = []api.Peer{}
	if s := rec.Core(c); s != rawCore(c) {
		t.Errorf("an empty list of peers: %x", s)
	}
}

// Promise 11.1: a zero core is absent from a record, but may not be one of a
// note's; nor may its bytes, or empty ones, be.
func TestZeroCore(t *testing.T) {
	if s := rec.Record(api.Rec{Kind: api.RecShard, Core: api.Core{Held: []api.Wait{}, Log: []api.Entry{}, Known: []api.Known{}, Base: []api.Pair{}}}); s != bytes(t, "06 00 00 00 00 00 00 00") {
		t.Errorf("a core of empty lists: %x", s)
	}
	zero := vint.Text(rawCore(api.Core{}))
	records().checkNot(t, bytes(t, "06 00 00 00 00 00 00")+zero)
	if s := rec.Note(api.Note{Kind: api.NoteSealed, Cores: []api.Core{{}}}); s != "" {
		t.Errorf("a note of a zero core: %x", s)
	}
	front := bytes(t, "0b 00 00 00 00 00 00 00 00 00 01 00 00 00")
	notes().checkNot(t, front+bytes(t, "01")+zero+bytes(t, "00"))
	notes().checkNot(t, front+bytes(t, "01 00 00"))
	if n, e := rec.ReadNote(front + bytes(t, "00 00")); e != api.OK || n.Kind != api.NoteSealed {
		t.Errorf("a note without cores: %+v, %v", n, e)
	}
}

// Promise 11.1: a mutation or a chart that is absent may have empty lists.
func TestAbsent(t *testing.T) {
	r := api.Rec{Kind: api.RecFreeze, Shard: 3, M: api.Mut{Pairs: []api.Pair{}}, Chart: api.Chart{L: []api.Shard{}}}
	if s := rec.Record(r); s != bytes(t, "04 03 00 00 00 00 00 00") {
		t.Errorf("Record: %x", s)
	}
	if s := rec.Note(api.Note{Kind: api.NoteBegun, M: r.M, Chart: r.Chart}); s != bytes(t, "0d 00 00 00 00 00 00 00 00 00 01 00 00 00 00 00") {
		t.Errorf("Note: %x", s)
	}
}

// Promise 11.1: a mutation of an entry or a held one, and a table, may not be absent.
func TestNotAbsent(t *testing.T) {
	for _, s := range []string{
		"01 00 01 00 00 00" + "01 00 04 00" + "00" + "00" + "01 00",
		"01 00 01 00 00 00" + "00" + "01 00 04 00" + "00" + "01 00",
		"01 00 01 00 00 00" + "00" + "00" + "00" + "00",
	} {
		cores().checkNot(t, bytes(t, s))
	}
	notes().checkNot(t, bytes(t, "0d 00 00 00 00 00 00 00 00 00 00 00 00 00 00"))
	notes().checkNot(t, bytes(t, "0d 00 00 00 00 00 00 00 00 00 01 00 01 00 00 00 00 00 00"))
}

// Promise 11.1: empty lists are read as nil.
func TestNil(t *testing.T) {
	c, e := rec.ReadCore(bytes(t, "07 01 09 04 00 01 00 00 00 01 00"))
	if e != api.OK || c.Held != nil || c.Log != nil || c.Known != nil || c.Base != nil {
		t.Errorf("ReadCore: %#v, %v", c, e)
	}
	n, e := rec.ReadNote(bytes(t, "04 00 00 00 00 0a 01 00 01 00 01 00 00 00 00 00"))
	if e != api.OK || n.M.Pairs != nil || n.Pairs != nil || n.Entries != nil || n.Known != nil || n.Cores != nil || n.Chart.L != nil {
		t.Errorf("ReadNote: %#v, %v", n, e)
	}
	r, e := rec.ReadRecord(bytes(t, "01 03 00 00 05 06 01 02 02 00 02 09 00 00"))
	if e != api.OK || r.M.Pairs != nil || r.Core.Held != nil || r.Chart.L != nil {
		t.Errorf("ReadRecord: %#v, %v", r, e)
	}
}

// Promise 11.1: bytes that are a little other than a value's are another one's, or none.
func TestAround(t *testing.T) {
	cores().checkAround(t, rec.Core(sampleCore()))
	cores().checkAround(t, rec.Core(api.Core{ID: 1, Keys: api.Span{Hi: 1}}))
	records().checkAround(t, rec.Record(sampleRecord()))
	records().checkAround(t, rec.Record(api.Rec{Kind: api.RecClock}))
	notes().checkAround(t, rec.Note(sampleNote()))
	notes().checkAround(t, rec.Note(api.Note{Kind: api.NoteBegun}))
}

// Promise 11.1: a number with more bytes than it needs is none, nor is a flag above 1.
func TestForm(t *testing.T) {
	for _, s := range []string{
		"81 00 00 01 00 00 00 00 00 00 01 00", "01 80 00 01 00 00 00 00 00 00 01 00", "01 00 01 00 02 00 00 00 00 01 00", "01 00 01 00 00 02 00 00 00 01 00",
		"01 00 01 00 00 00 80 00 00 00 01 00", "01 00 01 00 00 00 00 00 00 81 00 00", "01 00 01 00 00 00 00 00 00 02 80 00",
	} {
		cores().checkNot(t, bytes(t, s))
	}
	records().checkNot(t, bytes(t, "01 03 00 00 05 07 01 02 02 00 02 89 00 00 00"))
}

// Promise 11.1: lists and parts that say that they are huge are refused at once.
func TestHuge(t *testing.T) {
	for _, n := range []int{1001, 1 << 31, math.MaxInt} {
		front := bytes(t, "01 00 01 00 00 00")
		for _, s := range []string{front + nums(n), front + nums(0, n), front + nums(0, 0, n), front + nums(0, 0, 0, n), front + nums(0, 0, 0) + vint.Text(nums(n))} {
			cores().checkNot(t, s)
		}
		front = bytes(t, "01 00 00 00 00")
		for _, s := range []string{front + nums(n), front + nums(0, n), front + nums(0, 0, n)} {
			records().checkNot(t, s)
		}
		front = bytes(t, "01 00 00 00 00 00 00 00 00")
		for _, s := range []string{front + nums(n), front + nums(0, n), front + nums(0, 1, 0, n), front + nums(0, 1, 0, 0, n), front + nums(0, 1, 0, 0, 0, n), front + nums(0, 1, 0, 0, 0, 0, n)} {
			notes().checkNot(t, s)
		}
	}
	for _, x := range []int{math.MinInt, math.MaxInt, -1 << 62, 1 << 62} {
		c := api.Core{ID: x, Keys: api.Span{Lo: x, Hi: x}, Clock: x, Held: []api.Wait{{Time: x}}, Log: []api.Entry{{Time: x}}, Known: []api.Known{{Client: x, Seq: x, Time: x}}, Base: []api.Pair{{Key: x, Val: x}}}
		m := api.Mut{Client: x, Seq: x, Kind: x, Pairs: []api.Pair{{Key: x, Val: x}}, Over: api.Span{Lo: x, Hi: x}, Old: x}
		h := api.Chart{Epoch: x, Next: x, L: []api.Shard{{ID: x, Keys: api.Span{Lo: x, Hi: x}, Node: x}}}
		if rec.Core(c) != "" || rec.Record(api.Rec{Kind: 1, M: m}) != "" || rec.Record(api.Rec{Kind: 1, Chart: h}) != "" || rec.Record(api.Rec{Kind: x}) != "" || rec.Note(api.Note{Kind: 1, Time: x}) != "" || rec.Note(api.Note{Kind: 1, N: x}) != "" {
			t.Errorf("%d: bytes of what may not be", x)
		}
	}
}

// Promise 11.1 with R3: what is written is not changed, what was read is new, and no two lists of it are one.
func TestNothingShared(t *testing.T) {
	n, want := sampleNote(), sampleNote()
	s := rec.Note(n)
	if !reflect.DeepEqual(n, want) {
		t.Errorf("Note changed what it was handed: %+v", n)
	}
	a, _ := rec.ReadNote(s)
	b, _ := rec.ReadNote(s)
	a.Cores[0].Held[0].M.Pairs[0].Val = 99
	a.Cores[0].Log[0].Time = 99
	a.Cores[0].Known[0].Time = 99
	a.Cores[0].Base[0].Val = 99
	a.Entries = append(a.Entries[:1], api.Entry{})
	a.Chart.L[0].ID = 99
	a.M.Pairs = append(a.M.Pairs[:0], api.Pair{Key: 99})
	if !reflect.DeepEqual(b, want) || !reflect.DeepEqual(a.Cores[1], want.Cores[1]) || !reflect.DeepEqual(a.Pairs, want.Pairs) {
		t.Errorf("what was read shares memory: %+v", b)
	}
}

// somebody makes values of all kinds by chance.
type somebody struct {
	*rand.Rand
}

func (r somebody) upTo(most int) int {
	if r.Intn(3) == 0 {
		return r.Intn(most + 1)
	}
	return r.Intn(min(most, 300) + 1)
}

func (r somebody) pairs(n int) []api.Pair {
	keys := r.Perm(api.MaxKey)[:n]
	slices.Sort(keys)
	var l []api.Pair
	for _, key := range keys {
		l = append(l, api.Pair{Key: key, Val: r.upTo(2*api.MaxVal) - api.MaxVal})
	}
	return l
}

func (r somebody) mutation() api.Mut {
	m := api.Mut{Client: 1 + r.upTo(api.MaxClient-1), Seq: 1 + r.upTo(api.MaxSeq-1), Kind: 1 + r.Intn(5)}
	switch m.Kind {
	case api.MutPut:
		m.Pairs = r.pairs(1 + r.Intn(8))
	case api.MutDel:
		lo := r.Intn(api.MaxKey)
		m.Over = api.Span{Lo: lo, Hi: lo + 1 + r.Intn(api.MaxKey-lo)}
	case api.MutAdd:
		m.Pairs = r.pairs(1)
	case api.MutCas:
		m.Pairs, m.Old = r.pairs(1), r.upTo(2*api.MaxVal+1)-api.MaxVal
	case api.MutMove:
		m.Pairs = r.pairs(2)
		v := r.upTo(api.MaxVal)
		m.Pairs[0].Val, m.Pairs[1].Val = v, v
	}
	return m
}

// some are a few that make makes, or none.
func some[T any](r somebody, most int, make func() T) []T {
	var l []T
	for range r.Intn(most + 1) {
		l = append(l, make())
	}
	return l
}

func (r somebody) entry() api.Entry {
	return api.Entry{M: r.mutation(), Time: r.upTo(api.MaxTime), Done: r.Intn(2) == 0}
}

func (r somebody) wait() api.Wait {
	return api.Wait{M: r.mutation(), Time: r.upTo(api.MaxTime), Final: r.Intn(2) == 0}
}

func (r somebody) known() api.Known {
	return api.Known{Client: 1 + r.upTo(api.MaxClient-1), Seq: 1 + r.upTo(api.MaxSeq-1), Time: r.upTo(api.MaxTime), Done: r.Intn(2) == 0}
}

func (r somebody) core() api.Core {
	lo := r.Intn(api.MaxKey)
	return api.Core{
		ID: 1 + r.upTo(api.MaxShard-1), Keys: api.Span{Lo: lo, Hi: lo + 1 + r.Intn(api.MaxKey-lo)}, Clock: r.upTo(api.MaxTime), Frozen: r.Intn(2) == 0, Sealed: r.Intn(2) == 0,
		Held: some(r, 4, r.wait), Base: r.pairs(r.Intn(5)), Log: some(r, 4, r.entry), Known: some(r, 4, r.known),
	}
}

func (r somebody) mayBeMutation() api.Mut {
	if r.Intn(2) == 0 {
		return api.Mut{}
	}
	return r.mutation()
}

func (r somebody) mayBeChart() api.Chart {
	if r.Intn(2) == 0 {
		return api.Chart{}
	}
	c, _ := chart.First(1+r.Intn(api.MaxNodes), 1+r.Intn(api.MaxShards))
	return c
}

func (r somebody) record() api.Rec {
	x := api.Rec{Kind: 1 + r.Intn(7), Shard: r.upTo(api.MaxShard), Client: r.upTo(api.MaxClient), Seq: r.upTo(api.MaxSeq), Time: r.upTo(api.MaxTime), M: r.mayBeMutation(), Chart: r.mayBeChart()}
	if r.Intn(2) == 0 {
		x.Core = r.core()
	}
	return x
}

func (r somebody) note() api.Note {
	return api.Note{
		Kind: 1 + r.Intn(13), From: r.upTo(api.MaxShard), To: r.upTo(api.MaxShard), Client: r.upTo(api.MaxClient), Seq: r.upTo(api.MaxSeq),
		Time: r.upTo(api.MaxTime+1) - 1, N: r.upTo(api.MaxShard+1) - 1, Ask: r.Intn(2) == 0, Done: r.Intn(2) == 0, M: r.mayBeMutation(),
		Pairs: r.pairs(r.Intn(5)), Entries: some(r, 4, r.entry), Known: some(r, 4, r.known), Cores: some(r, 2, r.core), Chart: r.mayBeChart(),
	}
}

// Promise 11.2: any values come back from their bytes, and bytes that are spoiled a little hold what they are the bytes of, or nothing.
func TestAnyValues(t *testing.T) {
	r := somebody{rand.New(rand.NewSource(11))}
	for range 400 {
		c, x, n := r.core(), r.record(), r.note()
		cores().checkGood(t, c)
		records().checkGood(t, x)
		notes().checkGood(t, n)
		for range 10 {
			cores().checkBytes(t, r.spoiled(rec.Core(c)))
			records().checkBytes(t, r.spoiled(rec.Record(x)))
			notes().checkBytes(t, r.spoiled(rec.Note(n)))
		}
	}
}

// spoiled is bytes of which one or two are other ones.
func (r somebody) spoiled(s string) string {
	b := []byte(s)
	for range 1 + r.Intn(2) {
		b[r.Intn(len(b))] ^= byte(1 << r.Intn(8))
	}
	return string(b)
}

// Promise 11.1: parts are those of their own layers.
func TestParts(t *testing.T) {
	x := sampleRecord()
	want := nums(x.Kind, x.Shard, x.Client, x.Seq, x.Time) + vint.Text(mut.Text(x.M)) + vint.Text(chart.Text(x.Chart)) + vint.Text(rec.Core(x.Core))
	if s := rec.Record(x); s != want {
		t.Errorf("Record: %x, want %x", s, want)
	}
	if s := rec.Core(x.Core); !strings.HasSuffix(s, vint.Text(table.Text(x.Core.Base))) {
		t.Errorf("Core: %x, without its base at the end", s)
	}
}

// Promise 11.2: whatever the bytes are.
func FuzzRead(f *testing.F) {
	f.Add(rec.Core(sampleCore()))
	f.Add(rec.Record(sampleRecord()))
	f.Add(rec.Note(sampleNote()))
	f.Add("")
	f.Fuzz(func(t *testing.T, s string) {
		cores().checkBytes(t, s)
		records().checkBytes(t, s)
		notes().checkBytes(t, s)
	})
}
