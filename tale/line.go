package tale

import (
	"iter"
	"strconv"
	"strings"

	"splice/api"
)

const (
	mostKeep   = 20                 // blocks that a loss keeps
	mostDigits = 18                 // of a number
	mostWords  = 3 + 2*api.MaxPairs // of the longest line, which is that of a put
)

// The words that stand for a list and for an Old that are none.
const (
	noList = "-"
	noOld  = "none"
)

// line is the words, or the pieces of a line, as one.
func line(words ...string) string {
	return strings.Join(words, " ")
}

// parts yields the parts of a text that a separator stands between, also empty ones.
func parts(text, separator string) iter.Seq[string] {
	return func(yield func(string) bool) {
		rest, more := text, true
		for more {
			var part string
			part, rest, more = strings.Cut(rest, separator)
			if !yield(part) {
				return
			}
		}
	}
}

// compose is the line of a deed, if it has one. It leaves out what the line has no place for.
func compose(d api.Deed) string {
	who, n := strconv.Itoa(d.Who), strconv.Itoa(d.N)
	switch d.Kind {
	case api.DeedIssue:
		return line("issue", who, mutation(d.M))
	case api.DeedTell:
		return line("tell", who)
	case api.DeedTick:
		return line("tick", who)
	case api.DeedMail:
		return line("mail", n)
	case api.DeedTwice:
		return line("twice", n)
	case api.DeedLose:
		return line("lose", n)
	case api.DeedApart:
		if d.On {
			return line("apart", who, n)
		}
		return line("join", who, n)
	case api.DeedFail:
		return line("fail", who, loss(d.Loss))
	case api.DeedWake:
		return line("wake", who)
	case api.DeedTrip:
		return line("trip", who, n, loss(d.Loss))
	case api.DeedChange:
		return change(d.X)
	case api.DeedCalm:
		return "calm"
	case api.DeedRead:
		return line("read", who, n)
	}
	return ""
}

func mutation(m api.Mut) string {
	var l []string
	for _, p := range m.Pairs {
		l = append(l, strconv.Itoa(p.Key), strconv.Itoa(p.Val))
	}
	switch m.Kind {
	case api.MutPut:
		return line("put", line(l...))
	case api.MutDel:
		return line("del", strconv.Itoa(m.Over.Lo), strconv.Itoa(m.Over.Hi))
	case api.MutAdd:
		return line("add", line(l...))
	case api.MutCas:
		return line("cas", line(l...), old(m.Old))
	case api.MutMove:
		if len(m.Pairs) == 2 {
			return line("move", l[0], l[2], l[1])
		}
	}
	return ""
}

func old(val int) string {
	if val == api.Absent {
		return noOld
	}
	return strconv.Itoa(val)
}

func loss(x api.Loss) string {
	var l []string
	for _, n := range x.Keep {
		l = append(l, strconv.Itoa(n))
	}
	keep := strings.Join(l, ",")
	if keep == "" {
		keep = noList
	}
	return line(keep, strconv.Itoa(x.Torn), strconv.Itoa(x.At))
}

func change(x api.Change) string {
	id, at := strconv.Itoa(x.ID), strconv.Itoa(x.At)
	switch x.Kind {
	case api.Split:
		return line("split", id, at)
	case api.Merge:
		return line("merge", id)
	case api.Shift:
		return line("shift", id, at)
	}
	return ""
}

// reader reads a line, word by word. It is bad once a word was not as it must be.
type reader struct {
	left []string
	bad  bool
}

func (r *reader) deed() api.Deed {
	switch r.word() {
	case "issue":
		return api.Deed{Kind: api.DeedIssue, Who: r.number(), M: r.mutation()}
	case "tell":
		return api.Deed{Kind: api.DeedTell, Who: r.number()}
	case "tick":
		return api.Deed{Kind: api.DeedTick, Who: r.number()}
	case "mail":
		return api.Deed{Kind: api.DeedMail, N: r.number()}
	case "twice":
		return api.Deed{Kind: api.DeedTwice, N: r.number()}
	case "lose":
		return api.Deed{Kind: api.DeedLose, N: r.number()}
	case "apart":
		return api.Deed{Kind: api.DeedApart, Who: r.number(), N: r.number(), On: true}
	case "join":
		return api.Deed{Kind: api.DeedApart, Who: r.number(), N: r.number()}
	case "fail":
		return api.Deed{Kind: api.DeedFail, Who: r.number(), Loss: r.loss()}
	case "wake":
		return api.Deed{Kind: api.DeedWake, Who: r.number()}
	case "trip":
		return api.Deed{Kind: api.DeedTrip, Who: r.number(), N: r.number(), Loss: r.loss()}
	case "split":
		return api.Deed{Kind: api.DeedChange, X: api.Change{Kind: api.Split, ID: r.number(), At: r.number()}}
	case "merge":
		return api.Deed{Kind: api.DeedChange, X: api.Change{Kind: api.Merge, ID: r.number()}}
	case "shift":
		return api.Deed{Kind: api.DeedChange, X: api.Change{Kind: api.Shift, ID: r.number(), At: r.number()}}
	case "calm":
		return api.Deed{Kind: api.DeedCalm}
	case "read":
		return api.Deed{Kind: api.DeedRead, Who: r.number(), N: r.number()}
	}
	r.bad = true
	return api.Deed{}
}

func (r *reader) mutation() api.Mut {
	switch r.word() {
	case "put":
		m := api.Mut{Kind: api.MutPut, Pairs: []api.Pair{r.pair()}}
		for len(r.left) > 0 { // no more than a line has
			m.Pairs = append(m.Pairs, r.pair())
		}
		return m
	case "del":
		return api.Mut{Kind: api.MutDel, Over: api.Span{Lo: r.number(), Hi: r.number()}}
	case "add":
		return api.Mut{Kind: api.MutAdd, Pairs: []api.Pair{r.pair()}}
	case "cas":
		return api.Mut{Kind: api.MutCas, Pairs: []api.Pair{r.pair()}, Old: r.old()}
	case "move":
		from, to, val := r.number(), r.number(), r.number()
		return api.Mut{Kind: api.MutMove, Pairs: []api.Pair{{Key: from, Val: val}, {Key: to, Val: val}}}
	}
	r.bad = true
	return api.Mut{}
}

func (r *reader) pair() api.Pair {
	return api.Pair{Key: r.number(), Val: r.number()}
}

// old is a value, or none, for which no number stands.
func (r *reader) old() int {
	word := r.word()
	if word == noOld {
		return api.Absent
	}
	n := r.valued(word)
	r.bad = r.bad || n == api.Absent
	return n
}

func (r *reader) loss() api.Loss {
	return api.Loss{Keep: r.list(), Torn: r.number(), At: r.number()}
}

func (r *reader) list() []int {
	word := r.word()
	if word == noList {
		return nil
	}
	var l []int
	for w := range parts(word, ",") {
		if len(l) == mostKeep {
			r.bad = true
			break
		}
		l = append(l, r.valued(w))
	}
	return l
}

func (r *reader) number() int {
	return r.valued(r.word())
}

// valued is the number that a word writes. There is one way to write each.
func (r *reader) valued(word string) int {
	if len(strings.TrimPrefix(word, "-")) > mostDigits {
		r.bad = true
		return 0
	}
	n, err := strconv.Atoi(word)
	if err != nil || strconv.Itoa(n) != word {
		r.bad = true
		return 0
	}
	return n
}

// word is the next word. Behind the last one it is empty, as no word may be.
func (r *reader) word() string {
	if len(r.left) == 0 {
		return ""
	}
	word := r.left[0]
	r.left = r.left[1:]
	return word
}
