package core

import (
	"slices"

	"splice/api"
	"splice/chart"
	"splice/mut"
)

// shard is a core at work: under a chart, with what it makes on the way.
type shard struct {
	core  api.Core // its lists are the shard's own
	chart api.Chart
	recs  []api.Rec
	notes []api.Note
}

// take lets something that comes change the core. After an error, what the shard has is of no use.
func (s *shard) take(in api.In) api.Errno {
	switch in.Kind {
	case api.InPush:
		return s.push(in.M, in.Time)
	case api.InProp:
		return s.prop(in)
	case api.InFinal:
		return s.learn(name(in.Client, in.Seq), in.Time)
	case api.InTick:
		return s.tick()
	case api.InClock:
		return s.pass(in.Time)
	case api.InFreeze:
		return s.freeze()
	case api.InSeal:
		return s.seal()
	}
	return api.ErrArg
}

func (s *shard) push(m api.Mut, time int) api.Errno {
	if !mut.Check(m) || !isTime(time) {
		return api.ErrArg
	}
	n := name(m.Client, m.Seq)
	if at, is := place(s.core, n); is {
		s.acknowledge(s.core.Known[at])
		return api.OK
	}
	if find(s.core, n) >= 0 {
		return api.OK
	}
	if !s.serves(m) {
		return api.ErrGone
	}
	if s.core.Frozen {
		return api.ErrBusy
	}
	if e := s.hold(m, max(s.core.Clock, time)); e != api.OK {
		return e
	}
	return s.settle()
}

func (s *shard) prop(in api.In) api.Errno {
	if !mut.Check(in.M) || !between(1, in.From, api.MaxShard) || !between(1, in.Time, api.MaxTime) {
		return api.ErrArg
	}
	n := name(in.M.Client, in.M.Seq)
	if at, is := place(s.core, n); is {
		s.announce(in.From, n, s.core.Known[at].Time)
		return api.OK
	}
	if find(s.core, n) < 0 {
		if !s.serves(in.M) {
			return api.ErrGone
		}
		if e := s.hold(in.M, s.core.Clock); e != api.OK {
			return e
		}
	}
	w := &s.core.Held[find(s.core, n)]
	w.Peers = given(w.Peers, api.Peer{Shard: in.From, Time: in.Time})
	switch {
	case w.Final:
		s.announce(in.From, n, w.Time)
	case in.Ask:
		s.propose(*w, in.From, false)
	}
	return s.settle()
}

// learn lets the shard know a final time.
func (s *shard) learn(n api.Stamp, time int) api.Errno {
	if i := find(s.core, n); i >= 0 && s.core.Held[i].Final {
		return api.OK
	}
	if e := s.finish(n, time); e != api.OK {
		return e
	}
	return s.settle()
}

func (s *shard) tick() api.Errno {
	for _, w := range s.core.Held {
		if !w.Final {
			s.ask(w)
		}
	}
	return s.settle()
}

// pass lets the clock go on.
func (s *shard) pass(time int) api.Errno {
	switch {
	case !isTime(time):
		return api.ErrArg
	case s.core.Sealed:
		return api.ErrGone
	case time <= s.core.Clock:
		return api.OK
	}
	return s.record(api.Rec{Kind: api.RecClock, Time: time})
}

func (s *shard) freeze() api.Errno {
	if s.core.Frozen {
		return api.OK
	}
	return s.record(api.Rec{Kind: api.RecFreeze})
}

func (s *shard) seal() api.Errno {
	switch {
	case s.core.Sealed:
		return api.OK
	case !s.core.Frozen:
		return api.ErrArg
	}
	return s.record(api.Rec{Kind: api.RecSeal})
}

// others are the other parts of a mutation; own tells whether the shard is one, too.
func (s *shard) others(m api.Mut) (l []int, own bool) {
	l = chart.Owners(s.chart, mut.Touch(m))
	at := slices.Index(l, s.core.ID)
	if at < 0 {
		return l, false
	}
	return slices.Delete(l, at, at+1), true
}

// serves tells whether the shard may begin with a mutation, frozen or not.
func (s *shard) serves(m api.Mut) bool {
	_, own := s.others(m)
	return own && !s.core.Sealed
}

// record lets a record change the core, and keeps it.
func (s *shard) record(r api.Rec) api.Errno {
	r.Shard, r.M = s.core.ID, copied(r.M)
	s.recs = append(s.recs, r)
	return redo(&s.core, r)
}

// hold holds a mutation back, behind a time, and asks the other parts for theirs.
func (s *shard) hold(m api.Mut, behind int) api.Errno {
	if behind == api.MaxTime {
		return api.ErrLong
	}
	if e := s.record(api.Rec{Kind: api.RecWait, Time: behind + 1, M: m}); e != api.OK {
		return e
	}
	s.ask(s.core.Held[len(s.core.Held)-1])
	return api.OK
}

// finish makes a time final, and acknowledges what is committed by that.
func (s *shard) finish(n api.Stamp, time int) api.Errno {
	before := len(s.core.Log)
	if e := s.record(api.Rec{Kind: api.RecFinal, Client: n.Client, Seq: n.Seq, Time: time}); e != api.OK {
		return e
	}
	for _, e := range s.core.Log[before:] {
		s.acknowledge(api.Known{Client: e.M.Client, Seq: e.M.Seq, Time: e.Time, Done: e.Done})
	}
	return api.OK
}

// settle finishes all that can be finished. That changes neither the order of
// the others nor whether they can be, so that one walk finds all.
func (s *shard) settle() api.Errno {
	l := slices.Clone(s.core.Held)
	slices.SortFunc(l, func(v, w api.Wait) int { return mut.Compare(stamp(v), stamp(w)) })
	for i := slices.IndexFunc(l, s.ready); i >= 0; i = slices.IndexFunc(l, s.ready) {
		w := l[i]
		if e := s.finish(name(w.M.Client, w.M.Seq), s.greatest(w)); e != api.OK {
			return e // a peer of the core that was handed in gave a time that can't be
		}
		l = l[i+1:]
	}
	return api.OK
}

// ready tells whether all times are there that a final one is made of.
func (s *shard) ready(w api.Wait) bool {
	if w.Final {
		return false
	}
	l, own := s.others(w.M)
	return own && !slices.ContainsFunc(l, func(id int) bool { return !gave(w.Peers, id) })
}

// greatest is the greatest time that a part gave to a mutation, this shard or another one.
func (s *shard) greatest(w api.Wait) int {
	l, _ := s.others(w.M)
	time := w.Time
	for _, p := range w.Peers {
		if slices.Contains(l, p.Shard) {
			time = max(time, p.Time)
		}
	}
	return time
}

// ask proposes a mutation to the other parts that have given it no time, if the shard is a part.
func (s *shard) ask(w api.Wait) {
	l, own := s.others(w.M)
	if !own {
		return
	}
	for _, id := range l {
		if !gave(w.Peers, id) {
			s.propose(w, id, true)
		}
	}
}

func (s *shard) propose(w api.Wait, to int, ask bool) {
	s.notes = append(s.notes, api.Note{Kind: api.NoteProp, From: s.core.ID, To: to, Time: w.Time, Ask: ask, M: copied(w.M)})
}

func (s *shard) announce(to int, n api.Stamp, time int) {
	s.notes = append(s.notes, api.Note{Kind: api.NoteFinal, From: s.core.ID, To: to, Client: n.Client, Seq: n.Seq, Time: time})
}

func (s *shard) acknowledge(k api.Known) {
	s.notes = append(s.notes, api.Note{Kind: api.NoteAck, From: s.core.ID, Client: k.Client, Seq: k.Seq, Time: k.Time, Done: k.Done})
}

// gave tells whether a shard is among peers.
func gave(l []api.Peer, id int) bool {
	return slices.ContainsFunc(l, func(p api.Peer) bool { return p.Shard == id })
}

// given is peers with one more, in the place of what its shard gave before. The
// front has no room behind it, so that what follows goes to new memory.
func given(l []api.Peer, p api.Peer) []api.Peer {
	at := slices.IndexFunc(l, func(q api.Peer) bool { return q.Shard == p.Shard })
	if at < 0 {
		at = len(l)
	}
	now := append(l[:at:at], p)
	for _, q := range l[at:] {
		if q.Shard != p.Shard {
			now = append(now, q)
		}
	}
	return now
}
