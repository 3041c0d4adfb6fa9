package core_test

import (
	"cmp"
	"math/rand"
	"slices"
	"testing"

	"splice/api"
	"splice/chart"
	"splice/core"
	"splice/mut"
	"splice/table"
)

// model does what chapter 12 says, word by word, however slow that is.
type model struct {
	c     api.Core
	x     api.Chart
	recs  []api.Rec
	notes []api.Note
}

// keysOf are the keys that a mutation touches.
func keysOf(m api.Mut) []int {
	var l []int
	for _, p := range m.Pairs {
		l = append(l, p.Key)
	}
	for k := m.Over.Lo; k < m.Over.Hi; k++ {
		l = append(l, k)
	}
	return l
}

// hits tells whether a mutation touches a span.
func hits(m api.Mut, s api.Span) bool {
	return slices.ContainsFunc(keysOf(m), func(k int) bool { return s.Lo <= k && k < s.Hi })
}

// before tells whether a mutation at a time is ahead of another one.
func before(t int, m api.Mut, u int, n api.Mut) bool {
	return cmp.Or(cmp.Compare(t, u), cmp.Compare(m.Client, n.Client), cmp.Compare(m.Seq, n.Seq)) < 0
}

func named(a, b api.Mut) bool {
	return a.Client == b.Client && a.Seq == b.Seq
}

func modelCheck(c api.Core) bool {
	if c.ID < 1 || c.ID > api.MaxShard || c.Keys.Lo < 0 || c.Keys.Lo >= c.Keys.Hi || c.Keys.Hi > api.MaxKey || c.Clock < 0 || c.Clock > api.MaxTime {
		return false
	}
	if !table.Check(c.Base) || len(c.Held)+len(c.Known) > api.MaxList || len(c.Log) > len(c.Known) {
		return false
	}
	for _, p := range c.Base {
		if p.Key < c.Keys.Lo || p.Key >= c.Keys.Hi {
			return false
		}
	}
	for i, k := range c.Known {
		if k.Client < 1 || k.Client > api.MaxClient || k.Seq < 1 || k.Seq > api.MaxSeq || k.Time < 0 || k.Time > api.MaxTime {
			return false
		}
		if i > 0 && cmp.Or(cmp.Compare(c.Known[i-1].Client, k.Client), cmp.Compare(c.Known[i-1].Seq, k.Seq)) >= 0 {
			return false
		}
	}
	return modelHeld(c) && modelLog(c) && !(c.Sealed && (len(c.Held) > 0 || !c.Frozen))
}

func modelHeld(c api.Core) bool {
	for i, w := range c.Held {
		if !mut.Check(w.M) || !hits(w.M, c.Keys) || w.Time < 1 || w.Time > c.Clock || knows(c, w.M) >= 0 {
			return false
		}
		for j, v := range c.Held {
			if i != j && named(v.M, w.M) {
				return false
			}
		}
		for _, e := range c.Log {
			if before(w.Time, w.M, e.Time, e.M) {
				return false
			}
		}
	}
	return true
}

func modelLog(c api.Core) bool {
	for i, e := range c.Log {
		if !mut.Check(e.M) || !hits(e.M, c.Keys) || e.Time > c.Clock || i > 0 && !before(c.Log[i-1].Time, c.Log[i-1].M, e.Time, e.M) {
			return false
		}
		k := knows(c, e.M)
		if k < 0 || c.Known[k].Time != e.Time || c.Known[k].Done != e.Done {
			return false
		}
	}
	return true
}

// knows is where a mutation is known, or -1.
func knows(c api.Core, m api.Mut) int {
	return slices.IndexFunc(c.Known, func(k api.Known) bool { return k.Client == m.Client && k.Seq == m.Seq })
}

// holds is where a mutation is held, or -1.
func holds(c api.Core, m api.Mut) int {
	return slices.IndexFunc(c.Held, func(w api.Wait) bool { return named(w.M, m) })
}

func modelTable(c api.Core) []api.Pair {
	l := slices.Clone(c.Base)
	for _, e := range c.Log {
		if e.Done {
			l, _ = table.Apply(l, e.M, []api.Span{c.Keys})
		}
	}
	return l
}

// modelFirst is where the first of Held stands, or -1.
func modelFirst(c api.Core) int {
	return slices.IndexFunc(c.Held, func(w api.Wait) bool {
		return !slices.ContainsFunc(c.Held, func(v api.Wait) bool { return before(v.Time, v.M, w.Time, w.M) })
	})
}

func modelFloor(c api.Core) int {
	if i := modelFirst(c); i >= 0 {
		return c.Held[i].Time - 1
	}
	return c.Clock
}

// copyOf is a core whose lists can be changed: what they have is not.
func copyOf(c api.Core) api.Core {
	c.Held, c.Log, c.Known = slices.Clone(c.Held), slices.Clone(c.Log), slices.Clone(c.Known)
	return c
}

func modelRedo(c api.Core, r api.Rec) (api.Core, api.Errno) {
	m := api.Mut{Client: r.Client, Seq: r.Seq}
	d := copyOf(c)
	switch {
	case !modelCheck(c) || r.Shard != c.ID || r.Kind < api.RecWait || r.Kind > api.RecSeal:
		return api.Core{}, api.ErrArg
	case c.Sealed:
		return api.Core{}, api.ErrGone
	case r.Kind == api.RecWait && (!mut.Check(r.M) || !hits(r.M, c.Keys) || r.Time <= c.Clock || r.Time > api.MaxTime):
		return api.Core{}, api.ErrArg
	case r.Kind == api.RecWait && (holds(c, r.M) >= 0 || knows(c, r.M) >= 0):
		return api.Core{}, api.ErrThere
	case r.Kind == api.RecWait && len(c.Held)+len(c.Known) >= api.MaxList:
		return api.Core{}, api.ErrFull
	case r.Kind == api.RecWait:
		d.Held, d.Clock = append(d.Held, api.Wait{M: r.M, Time: r.Time}), r.Time
	case r.Kind == api.RecFinal && holds(c, m) < 0:
		return api.Core{}, api.ErrNone
	case r.Kind == api.RecFinal && c.Held[holds(c, m)].Final:
		return api.Core{}, api.ErrThere
	case r.Kind == api.RecFinal && (r.Time < c.Held[holds(c, m)].Time || r.Time > api.MaxTime):
		return api.Core{}, api.ErrArg
	case r.Kind == api.RecFinal:
		w := &d.Held[holds(c, m)]
		w.Time, w.Final, d.Clock = r.Time, true, max(d.Clock, r.Time)
		return modelCommit(d), api.OK
	case r.Kind == api.RecClock && (r.Time < 0 || r.Time > api.MaxTime):
		return api.Core{}, api.ErrArg
	case r.Kind == api.RecClock:
		d.Clock = max(d.Clock, r.Time)
	case r.Kind == api.RecFreeze:
		d.Frozen = true
	case len(c.Held) > 0:
		return api.Core{}, api.ErrBusy
	case !c.Frozen:
		return api.Core{}, api.ErrArg
	default:
		d.Sealed = true
	}
	return d, api.OK
}

func modelCommit(c api.Core) api.Core {
	i := modelFirst(c)
	if i < 0 || !c.Held[i].Final {
		return c
	}
	w := c.Held[i]
	_, done := table.Apply(modelTable(c), w.M, []api.Span{c.Keys})
	c.Held = slices.Concat(c.Held[:i], c.Held[i+1:])
	c.Log = append(c.Log, api.Entry{M: w.M, Time: w.Time, Done: done})
	c.Known = append(c.Known, api.Known{Client: w.M.Client, Seq: w.M.Seq, Time: w.Time, Done: done})
	slices.SortFunc(c.Known, func(a, b api.Known) int {
		return cmp.Or(cmp.Compare(a.Client, b.Client), cmp.Compare(a.Seq, b.Seq))
	})
	return modelCommit(c)
}

// parts are the numbers of the shards that have a key that a mutation touches.
func (s *model) parts(m api.Mut) []int {
	var l []int
	for _, h := range s.x.L {
		if hits(m, h.Keys) {
			l = append(l, h.ID)
		}
	}
	return l
}

func (s *model) record(r api.Rec) {
	r.Shard = s.c.ID
	s.recs = append(s.recs, r)
	s.c, _ = modelRedo(s.c, r)
}

func (s *model) tell(n api.Note) {
	n.From = s.c.ID
	s.notes = append(s.notes, n)
}

// propose proposes what is held to all other parts that have given no time.
func (s *model) propose(w api.Wait) {
	for _, id := range s.parts(w.M) {
		if id != s.c.ID && !slices.ContainsFunc(w.Peers, func(p api.Peer) bool { return p.Shard == id }) {
			s.tell(api.Note{Kind: api.NoteProp, To: id, M: w.M, Time: w.Time, Ask: true})
		}
	}
}

func (s *model) finish(m api.Mut, time int) {
	n := len(s.c.Log)
	s.record(api.Rec{Kind: api.RecFinal, Client: m.Client, Seq: m.Seq, Time: time})
	for _, e := range s.c.Log[n:] {
		s.tell(api.Note{Kind: api.NoteAck, Client: e.M.Client, Seq: e.M.Seq, Time: e.Time, Done: e.Done})
	}
}

// settles is where the one that settles next stands, or -1, and its final time.
func (s *model) settles() (at, time int) {
	at = -1
	for i, w := range s.c.Held {
		parts := s.parts(w.M)
		if w.Final || !slices.Contains(parts, s.c.ID) || at >= 0 && before(s.c.Held[at].Time, s.c.Held[at].M, w.Time, w.M) {
			continue
		}
		most, all := w.Time, true
		for _, id := range parts {
			gave := id == s.c.ID
			for _, p := range w.Peers {
				if p.Shard == id && id != s.c.ID {
					gave, most = true, max(most, p.Time)
				}
			}
			all = all && gave
		}
		if all {
			at, time = i, most
		}
	}
	return at, time
}

func (s *model) settle() api.Errno {
	for at, time := s.settles(); at >= 0; at, time = s.settles() {
		s.finish(s.c.Held[at].M, time)
	}
	return api.OK
}

// hold holds a mutation back one behind a time, if that can be.
func (s *model) hold(m api.Mut, behind int) api.Errno {
	switch {
	case behind >= api.MaxTime:
		return api.ErrLong
	case !hits(m, s.c.Keys):
		return api.ErrArg
	case len(s.c.Held)+len(s.c.Known) >= api.MaxList:
		return api.ErrFull
	}
	s.record(api.Rec{Kind: api.RecWait, M: m, Time: behind + 1})
	s.propose(s.c.Held[len(s.c.Held)-1])
	return api.OK
}

func (s *model) push(in api.In) api.Errno {
	switch k := knows(s.c, in.M); {
	case !mut.Check(in.M) || in.Time < 0 || in.Time > api.MaxTime:
		return api.ErrArg
	case k >= 0:
		s.tell(api.Note{Kind: api.NoteAck, Client: in.M.Client, Seq: in.M.Seq, Time: s.c.Known[k].Time, Done: s.c.Known[k].Done})
		return api.OK
	case holds(s.c, in.M) >= 0:
		return api.OK
	case s.c.Sealed || !slices.Contains(s.parts(in.M), s.c.ID):
		return api.ErrGone
	case s.c.Frozen:
		return api.ErrBusy
	}
	if e := s.hold(in.M, max(s.c.Clock, in.Time)); e != api.OK {
		return e
	}
	return s.settle()
}

func (s *model) prop(in api.In) api.Errno {
	final := api.Note{Kind: api.NoteFinal, To: in.From, Client: in.M.Client, Seq: in.M.Seq}
	switch k := knows(s.c, in.M); {
	case !mut.Check(in.M) || in.From < 1 || in.From > api.MaxShard || in.Time < 1 || in.Time > api.MaxTime:
		return api.ErrArg
	case k >= 0:
		final.Time = s.c.Known[k].Time
		s.tell(final)
		return api.OK
	case holds(s.c, in.M) >= 0:
	case s.c.Sealed || !slices.Contains(s.parts(in.M), s.c.ID):
		return api.ErrGone
	default:
		if e := s.hold(in.M, s.c.Clock); e != api.OK {
			return e
		}
	}
	w := &s.c.Held[holds(s.c, in.M)]
	var peers []api.Peer
	is := api.Peer{Shard: in.From, Time: in.Time}
	for _, p := range w.Peers {
		if p.Shard == in.From {
			p = is
		}
		peers = append(peers, p)
	}
	if !slices.Contains(peers, is) {
		peers = append(peers, is)
	}
	w.Peers = peers
	final.Time = w.Time
	switch {
	case w.Final:
		s.tell(final)
	case in.Ask:
		s.tell(api.Note{Kind: api.NoteProp, To: in.From, M: w.M, Time: w.Time})
	}
	return s.settle()
}

func (s *model) rest(in api.In) api.Errno {
	m := api.Mut{Client: in.Client, Seq: in.Seq}
	at := holds(s.c, m)
	switch in.Kind {
	case api.InFinal:
		switch {
		case at >= 0 && s.c.Held[at].Final:
			return api.OK
		case s.c.Sealed:
			return api.ErrGone
		case at < 0:
			return api.ErrNone
		case in.Time < s.c.Held[at].Time || in.Time > api.MaxTime:
			return api.ErrArg
		}
		s.finish(m, in.Time)
		return s.settle()
	case api.InTick:
		for _, w := range s.c.Held {
			if !w.Final && slices.Contains(s.parts(w.M), s.c.ID) {
				s.propose(w)
			}
		}
		return s.settle()
	case api.InClock:
		switch {
		case in.Time < 0 || in.Time > api.MaxTime:
			return api.ErrArg
		case s.c.Sealed:
			return api.ErrGone
		case in.Time > s.c.Clock:
			s.record(api.Rec{Kind: api.RecClock, Time: in.Time})
		}
		return api.OK
	case api.InFreeze:
		if !s.c.Frozen {
			s.record(api.Rec{Kind: api.RecFreeze})
		}
		return api.OK
	case api.InSeal:
		switch {
		case s.c.Sealed:
			return api.OK
		case !s.c.Frozen:
			return api.ErrArg
		case len(s.c.Held) > 0:
			return api.ErrBusy
		}
		s.record(api.Rec{Kind: api.RecSeal})
		return api.OK
	}
	return api.ErrArg
}

func modelStep(c api.Core, x api.Chart, in api.In) api.Out {
	s := &model{c: copyOf(c), x: x}
	e := api.ErrArg
	if modelCheck(c) && chart.Check(x) {
		switch in.Kind {
		case api.InPush:
			e = s.push(in)
		case api.InProp:
			e = s.prop(in)
		default:
			e = s.rest(in)
		}
	}
	if e != api.OK {
		return api.Out{C: c, E: e}
	}
	return api.Out{C: s.c, Recs: s.recs, Notes: s.notes}
}

func modelHeirs(old []api.Core, fresh []api.Shard) ([]api.Core, api.Errno) {
	if len(old) == 0 || len(fresh) == 0 || fresh[0].Keys.Lo != old[0].Keys.Lo || fresh[len(fresh)-1].Keys.Hi != old[len(old)-1].Keys.Hi {
		return nil, api.ErrArg
	}
	clock, known, has := 0, []api.Known(nil), map[int]int{}
	for i, c := range old {
		if !modelCheck(c) || !c.Sealed || i > 0 && old[i-1].Keys.Hi != c.Keys.Lo {
			return nil, api.ErrArg
		}
		clock = max(clock, c.Clock)
		for _, k := range c.Known {
			if !slices.ContainsFunc(known, func(l api.Known) bool { return l.Client == k.Client && l.Seq == k.Seq }) {
				known = append(known, k)
			}
		}
		for _, p := range modelTable(c) {
			has[p.Key] = p.Val
		}
	}
	for i, s := range fresh {
		if s.ID < 1 || s.ID > api.MaxShard || s.Keys.Lo >= s.Keys.Hi || i > 0 && fresh[i-1].Keys.Hi != s.Keys.Lo {
			return nil, api.ErrArg
		}
	}
	if len(known) > api.MaxList {
		return nil, api.ErrLong
	}
	slices.SortFunc(known, func(a, b api.Known) int {
		return cmp.Or(cmp.Compare(a.Client, b.Client), cmp.Compare(a.Seq, b.Seq))
	})
	var l []api.Core
	for _, s := range fresh {
		c := api.Core{ID: s.ID, Keys: s.Keys, Clock: clock, Known: known}
		for k := s.Keys.Lo; k < s.Keys.Hi; k++ {
			if v, is := has[k]; is {
				c.Base = append(c.Base, api.Pair{Key: k, Val: v})
			}
		}
		l = append(l, c)
	}
	return l, api.OK
}

// maker makes things that are often near the edge, from numbers that it is handed.
type maker struct {
	n func(most int) int // from 0 on, below most
}

func (g maker) of(l ...int) int {
	return l[g.n(len(l))]
}

func (g maker) key() int {
	return g.of(0, 1, 2, 3, 1364, 1365, 2047, 2048, 2049, 2730, 4094, 4095)
}

func (g maker) mutation() api.Mut {
	client, seq := 1+g.n(3), 1+g.n(4)
	k, l := g.key(), g.key()
	lo, hi := min(k, l), max(k, l)
	switch g.n(5) {
	case 0:
		return add(client, seq, k, g.n(9)-4)
	case 1:
		return cas(client, seq, k, g.of(api.Absent, 0, 1, 2), g.n(4))
	case 2:
		return move(client, seq, k, l, g.n(3)) // none, if the keys are the same
	case 3:
		return del(client, seq, lo, hi+g.n(2))
	}
	if lo == hi {
		return put(client, seq, api.Pair{Key: k, Val: g.n(4)})
	}
	return put(client, seq, api.Pair{Key: lo, Val: g.n(4)}, api.Pair{Key: hi, Val: g.n(4)})
}

// chart is one of some few shards, after some changes.
func (g maker) chart() api.Chart {
	x := charted(1 + g.n(4))
	for range g.n(3) {
		y, _, _, e := chart.Apply(x, api.Change{Kind: 1 + g.n(3), ID: 1 + g.n(6), At: g.of(0, 1, 2, 1365, 2000)})
		if e == api.OK {
			x = y
		}
	}
	if g.n(50) == 0 {
		x.Epoch = 0
	}
	return x
}

// core is one of a shard of a chart, mostly; mostly it may be.
func (g maker) core(x api.Chart) api.Core {
	s := x.L[g.n(len(x.L))]
	c := begun(s)
	if g.n(8) == 0 {
		c.Keys = api.Span{Lo: g.of(0, 1, 2048), Hi: g.of(3, 2049, 4096)}
	}
	c.Clock = g.n(12)
	for k := range api.MaxKey {
		if c.Keys.Lo <= k && k < c.Keys.Hi && (k < 4 || k > 4090) && g.n(3) == 0 {
			c.Base = append(c.Base, api.Pair{Key: k, Val: g.n(5)})
		}
	}
	for client := 1; client <= 3; client++ {
		for seq := 1; seq <= 4; seq++ {
			m, time, some := g.mutation(), g.n(12), g.n(2) == 0
			m.Client, m.Seq = client, seq
			switch g.n(6) {
			case 0:
				c.Known = append(c.Known, api.Known{Client: client, Seq: seq, Time: time, Done: some})
			case 1:
				c.Known = append(c.Known, api.Known{Client: client, Seq: seq, Time: time, Done: some})
				c.Log = append(c.Log, api.Entry{M: m, Time: time, Done: some})
			case 2:
				w := api.Wait{M: m, Time: time, Final: some}
				for range g.n(3) {
					w.Peers = append(w.Peers, api.Peer{Shard: 1 + g.n(6), Time: 1 + g.n(12)})
				}
				c.Held = append(c.Held, w)
			}
		}
	}
	c.Frozen, c.Sealed = g.n(4) == 0, false
	return g.spoiled(g.mended(c))
}

// mended is a core with all taken away that may not be, and its clock late enough.
func (g maker) mended(c api.Core) api.Core {
	c.Log = slices.DeleteFunc(c.Log, func(e api.Entry) bool { return !mut.Check(e.M) || !hits(e.M, c.Keys) })
	slices.SortFunc(c.Log, func(d, e api.Entry) int {
		if before(d.Time, d.M, e.Time, e.M) {
			return -1
		}
		return 1
	})
	c.Held = slices.DeleteFunc(c.Held, func(w api.Wait) bool { return !mut.Check(w.M) || !hits(w.M, c.Keys) })
	for i := range c.Held {
		w := &c.Held[i]
		if n := len(c.Log); n > 0 {
			w.Time += c.Log[n-1].Time
		}
		w.Time++
		slices.SortFunc(w.Peers, func(p, q api.Peer) int { return cmp.Compare(p.Shard, q.Shard) })
		w.Peers = slices.CompactFunc(w.Peers, func(p, q api.Peer) bool { return p.Shard == q.Shard })
		c.Clock = max(c.Clock, w.Time)
	}
	if n := len(c.Log); n > 0 {
		c.Clock = max(c.Clock, c.Log[n-1].Time)
	}
	g.shuffle(c.Held)
	if g.n(5) == 0 {
		c.Held, c.Frozen, c.Sealed = nil, true, true
	}
	return c
}

func (g maker) shuffle(l []api.Wait) {
	for i := range l {
		j := g.n(i + 1)
		l[i], l[j] = l[j], l[i]
	}
}

// spoiled is a core, now and then with something about it changed.
func (g maker) spoiled(c api.Core) api.Core {
	switch g.n(60) {
	case 0:
		c.ID = g.of(0, -1, api.MaxShard, api.MaxShard+1)
	case 1:
		c.Clock = g.of(-1, api.MaxTime, api.MaxTime-1, api.MaxTime+1)
	case 2:
		c.Keys = api.Span{Lo: g.key(), Hi: g.key()}
	case 3:
		c.Sealed = !c.Sealed
	case 4:
		c.Frozen = !c.Frozen
	case 5:
		c.Clock = g.n(12)
	}
	if n := len(c.Log); n > 0 && g.n(20) == 0 {
		e := &c.Log[g.n(n)]
		e.Time, e.Done = e.Time+g.n(2), e.Done != (g.n(3) == 0)
	}
	if n := len(c.Held); n > 0 && g.n(20) == 0 {
		w := &c.Held[g.n(n)]
		w.Time, w.M.Client = w.Time-g.n(6), w.M.Client+g.n(2)
	}
	if n := len(c.Known); n > 0 && g.n(20) == 0 {
		k := &c.Known[g.n(n)]
		k.Seq += g.n(3) - 1
	}
	if n := len(c.Base); n > 0 && g.n(20) == 0 {
		c.Base[g.n(n)].Key += g.n(3) - 1
	}
	return c
}

// given is something that comes, mostly about what a core has.
func (g maker) given(c api.Core) api.In {
	in := api.In{Kind: g.n(api.InSeal + 1), From: g.of(1, 2, 3, 4, 5, 6, 0, api.MaxShard), Ask: g.n(2) == 0, M: g.mutation()}
	in.Client, in.Seq = 1+g.n(3), 1+g.n(4)
	in.Time = c.Clock + g.n(20) - 12
	if g.n(20) == 0 {
		in.Time = g.of(-1, 0, 1, api.MaxTime-1, api.MaxTime, api.MaxTime+1)
	}
	if n := len(c.Held); n > 0 && g.n(2) == 0 {
		w := c.Held[g.n(n)]
		in.M, in.Client, in.Seq = w.M, w.M.Client, w.M.Seq
	}
	return in
}

// record is one, mostly about what a core has.
func (g maker) record(c api.Core) api.Rec {
	in := g.given(c)
	r := api.Rec{Kind: g.n(api.RecChart), Shard: c.ID, Client: in.Client, Seq: in.Seq, Time: in.Time, M: in.M}
	if g.n(30) == 0 {
		r.Shard++
	}
	return r
}

// shards are such as may take the place of cores, mostly.
func (g maker) shards(l []api.Core) []api.Shard {
	lo, hi := l[0].Keys.Lo, l[len(l)-1].Keys.Hi
	at := []int{lo, hi}
	for range g.n(3) {
		if k := g.key(); lo < k && k < hi && !slices.Contains(at, k) || g.n(20) == 0 {
			at = append(at, k)
		}
	}
	slices.Sort(at)
	var fresh []api.Shard
	for i := 1; i < len(at); i++ {
		fresh = append(fresh, api.Shard{ID: g.of(1, 7, 8, 9, 10, api.MaxShard), Keys: api.Span{Lo: at[i-1], Hi: at[i]}})
	}
	if g.n(20) == 0 {
		fresh[0].ID = g.of(0, -1, api.MaxShard+1)
	}
	return fresh
}

// agree tells what is wrong if the program answers other than the model for what a maker makes.
func agree(t *testing.T, g maker) {
	x := g.chart()
	c := g.core(x)
	check := modelCheck(c)
	if core.Check(c) != check {
		t.Fatalf("Check of %v is not %v", c, check)
	}
	floor, values := 0, []api.Pair(nil)
	if check {
		floor, values = modelFloor(c), modelTable(c)
	}
	if n, l := core.Floor(c), core.Table(c); n != floor || !same(l, values) {
		t.Fatalf("%v: the floor %d, not %d; the table %v, not %v", c, n, floor, l, values)
	}
	r := g.record(c)
	d, e := core.Redo(c, r)
	if want, f := modelRedo(c, r); e != f || !same(d, want) || e == api.OK && !core.Check(d) {
		t.Fatalf("Redo of %v, %v: %v, %v, not %v, %v", c, r, d, e, want, f)
	}
	in := g.given(c)
	o := core.Step(c, x, in)
	if want := modelStep(c, x, in); !same(o, want) || o.E == api.OK && !core.Check(o.C) {
		t.Fatalf("Step of %v, %v, %v:\n%v, not\n%v", c, x, in, o, want)
	}
	var old []api.Core
	for _, s := range x.L[:1+g.n(len(x.L))] {
		c := g.core(x)
		c.Held, c.Frozen, c.Sealed = nil, true, g.n(20) > 0
		if g.n(20) > 0 {
			c.Keys, c.Base = s.Keys, nil
			c.Log = slices.DeleteFunc(c.Log, func(e api.Entry) bool { return !hits(e.M, c.Keys) })
		}
		old = append(old, c)
	}
	fresh := g.shards(old)
	l, e := core.Heirs(old, fresh)
	if want, f := modelHeirs(old, fresh); e != f || !same(l, want) {
		t.Fatalf("Heirs of %v, %v: %v, %v, not %v, %v", old, fresh, l, e, want, f)
	}
}

// Promises 12.1, 12.2 and 12.3: the program answers what the words of the chapter come to.
func TestModel(t *testing.T) {
	r := rand.New(rand.NewSource(12))
	for range 10000 {
		agree(t, maker{r.Intn})
	}
}

// Promises 12.1, 12.2 and 12.3, for any numbers.
func FuzzModel(f *testing.F) {
	f.Add("")
	f.Add("some numbers that are not in order: 3,1,4,1,5,9,2,6,5")
	f.Fuzz(func(t *testing.T, s string) {
		at := 0
		agree(t, maker{func(most int) int {
			if at >= len(s) {
				return 0
			}
			at++
			return int(s[at-1]) % most
		}})
	})
}
