package tale_test

import (
	"fmt"
	"math/rand"
	"reflect"
	"regexp"
	"strconv"
	"strings"
	"testing"

	"splice/api"
	"splice/cluster"
	"splice/judge"
	"splice/tale"
)

// form is a form of lines, and the deed that the words of one tell.
type form struct {
	line *regexp.Regexp
	deed func(w []string) api.Deed
}

// grammar is how chapter 19 says that lines look: N is a number, LOSS what a loss leaves.
func grammar() []form {
	var l []form
	add := func(line string, deed func(w []string) api.Deed) {
		line = strings.ReplaceAll(line, "LOSS", `(?:-|N(?:,N){0,19}) N N`)
		line = strings.ReplaceAll(line, "N", `(?:0|-?[1-9][0-9]{0,17})`)
		l = append(l, form{regexp.MustCompile(`\A(?:` + line + `)\z`), deed})
	}
	add(`issue N put(?: N N){1,8}`, func(w []string) api.Deed { return issues(w, api.Mut{Kind: 1, Pairs: pairs(w[3:])}) })
	add(`issue N del N N`, func(w []string) api.Deed {
		return issues(w, api.Mut{Kind: 2, Over: api.Span{Lo: num(w[3]), Hi: num(w[4])}})
	})
	add(`issue N add N N`, func(w []string) api.Deed { return issues(w, api.Mut{Kind: 3, Pairs: pairs(w[3:])}) })
	add(`issue N cas N N none`, func(w []string) api.Deed { return issues(w, api.Mut{Kind: 4, Pairs: pairs(w[3:5]), Old: 1<<40 + 1}) })
	add(`issue N cas N N N`, func(w []string) api.Deed { return issues(w, api.Mut{Kind: 4, Pairs: pairs(w[3:5]), Old: num(w[5])}) })
	add(`issue N move N N N`, func(w []string) api.Deed {
		return issues(w, api.Mut{Kind: 5, Pairs: pairs([]string{w[3], w[5], w[4], w[5]})})
	})
	for verb, kind := range map[string]int{"tell": 1, "tick": 2, "wake": 8} {
		add(verb+` N`, func(w []string) api.Deed { return api.Deed{Kind: kind, Who: num(w[1])} })
	}
	for verb, kind := range map[string]int{"mail": 3, "twice": 4, "lose": 5} {
		add(verb+` N`, func(w []string) api.Deed { return api.Deed{Kind: kind, N: num(w[1])} })
	}
	add(`apart N N`, func(w []string) api.Deed { return api.Deed{Kind: 6, Who: num(w[1]), N: num(w[2]), On: true} })
	add(`join N N`, func(w []string) api.Deed { return api.Deed{Kind: 6, Who: num(w[1]), N: num(w[2])} })
	add(`fail N LOSS`, func(w []string) api.Deed { return api.Deed{Kind: 7, Who: num(w[1]), Loss: lost(w[2:])} })
	add(`trip N N LOSS`, func(w []string) api.Deed {
		return api.Deed{Kind: 9, Who: num(w[1]), N: num(w[2]), Loss: lost(w[3:])}
	})
	add(`split N N`, func(w []string) api.Deed {
		return api.Deed{Kind: 10, X: api.Change{Kind: 1, ID: num(w[1]), At: num(w[2])}}
	})
	add(`merge N`, func(w []string) api.Deed { return api.Deed{Kind: 10, X: api.Change{Kind: 2, ID: num(w[1])}} })
	add(`shift N N`, func(w []string) api.Deed {
		return api.Deed{Kind: 10, X: api.Change{Kind: 3, ID: num(w[1]), At: num(w[2])}}
	})
	add(`calm`, func(w []string) api.Deed { return api.Deed{Kind: 11} })
	add(`read N N`, func(w []string) api.Deed { return api.Deed{Kind: 12, Who: num(w[1]), N: num(w[2])} })
	return l
}

func num(w string) int {
	n, err := strconv.ParseInt(w, 10, 64)
	if err != nil {
		panic(err)
	}
	return int(n)
}

func pairs(w []string) []api.Pair {
	var l []api.Pair
	for i := 0; i < len(w); i += 2 {
		l = append(l, api.Pair{Key: num(w[i]), Val: num(w[i+1])})
	}
	return l
}

func issues(w []string, m api.Mut) api.Deed {
	return api.Deed{Kind: 0, Who: num(w[1]), M: m}
}

func lost(w []string) api.Loss {
	x := api.Loss{Torn: num(w[1]), At: num(w[2])}
	if w[0] != "-" {
		for _, n := range strings.Split(w[0], ",") {
			x.Keep = append(x.Keep, num(n))
		}
	}
	return x
}

// modelRead is the deed of a line, and whether there is one. The one way to write an Old that is absent is none.
func modelRead(line string, l []form) (api.Deed, bool) {
	for _, f := range l {
		if !f.line.MatchString(line) {
			continue
		}
		w := strings.Split(line, " ")
		if len(w) == 6 && w[2] == "cas" && w[5] == "1099511627777" {
			return api.Deed{}, false
		}
		return f.deed(w), true
	}
	return api.Deed{}, false
}

// modelShow is the line of a deed, and whether it has one: whether a line that tells what a deed of its kind has is one of just this deed.
func modelShow(d api.Deed, l []form) (string, bool) {
	p := ""
	for _, x := range d.M.Pairs {
		p += fmt.Sprintf(" %d %d", x.Key, x.Val)
	}
	keep := strings.ReplaceAll(strings.Trim(fmt.Sprint(d.Loss.Keep), "[]"), " ", ",")
	if keep == "" {
		keep = "-"
	}
	loss := fmt.Sprintf("%s %d %d", keep, d.Loss.Torn, d.Loss.At)
	who := fmt.Sprint("issue ", d.Who)
	old := fmt.Sprint(d.M.Old)
	if d.M.Old == api.Absent {
		old = "none"
	}
	lines := []string{
		who + " put" + p, fmt.Sprintf("%s del %d %d", who, d.M.Over.Lo, d.M.Over.Hi), who + " add" + p, who + " cas" + p + " " + old,
		fmt.Sprint("tell ", d.Who), fmt.Sprint("tick ", d.Who), fmt.Sprint("wake ", d.Who),
		fmt.Sprint("mail ", d.N), fmt.Sprint("twice ", d.N), fmt.Sprint("lose ", d.N),
		fmt.Sprintf("apart %d %d", d.Who, d.N), fmt.Sprintf("join %d %d", d.Who, d.N),
		fmt.Sprintf("fail %d %s", d.Who, loss), fmt.Sprintf("trip %d %d %s", d.Who, d.N, loss),
		fmt.Sprintf("split %d %d", d.X.ID, d.X.At), fmt.Sprintf("merge %d", d.X.ID), fmt.Sprintf("shift %d %d", d.X.ID, d.X.At),
		"calm", fmt.Sprintf("read %d %d", d.Who, d.N),
	}
	if len(d.M.Pairs) == 2 {
		lines = append(lines, fmt.Sprintf("%s move %d %d %d", who, d.M.Pairs[0].Key, d.M.Pairs[1].Key, d.M.Pairs[1].Val))
	}
	for _, s := range lines {
		if x, is := modelRead(s, l); is && equal(x, d) {
			return s, true
		}
	}
	return "", false
}

// equal tells whether two deeds are equal; no list is an empty one.
func equal(a, b api.Deed) bool {
	for _, d := range []*api.Deed{&a, &b} {
		if len(d.M.Pairs) == 0 {
			d.M.Pairs = nil
		}
		if len(d.Loss.Keep) == 0 {
			d.Loss.Keep = nil
		}
	}
	return reflect.DeepEqual(a, b)
}

// agrees looks whether a line is read as the model reads it, and shown as it was.
func agrees(t *testing.T, line string, l []form) (is bool) {
	t.Helper()
	want, is := modelRead(line, l)
	d, e := tale.Read(line)
	if is && (e != api.OK || !equal(d, want)) || !is && (e != api.ErrForm || !equal(d, api.Deed{})) {
		t.Fatalf("Read(%q): %v, %d, not %v, %v", line, d, e, want, is)
	}
	if s, e := tale.Show(d); is && (e != api.OK || s != line) {
		t.Fatalf("Show(%v): %q, %d, not %q", d, s, e, line)
	}
	return is
}

// agreed looks whether a deed is shown as the model shows it, and read as it was.
func agreed(t *testing.T, d api.Deed, l []form) (is bool) {
	t.Helper()
	want, is := modelShow(d, l)
	s, e := tale.Show(d)
	if is && (e != api.OK || s != want) || !is && (e != api.ErrArg || s != "") {
		t.Fatalf("Show(%v): %q, %d, not %q, %v", d, s, e, want, is)
	}
	if x, e := tale.Read(s); is && (e != api.OK || !equal(x, d)) {
		t.Fatalf("Read(%q): %v, %d, not %v", s, x, e, d)
	}
	return is
}

// maker makes things that are often near the edge, from numbers that it is handed.
type maker struct {
	n func(most int) int // from 0 on, below most
}

func (g maker) of(l ...int) int {
	return l[g.n(len(l))]
}

func (g maker) text(l ...string) string {
	return l[g.n(len(l))]
}

// number is one that a line may have, or not.
func (g maker) number() int {
	const most = 1e18
	return g.of(0, 1, 2, 5, 7, 10, -1, -3, 300, api.MaxVal, api.Absent, most-1, 1-most, most, -most, 1<<63-1, -1<<63)
}

// wild is a deed with or without a line.
func (g maker) wild() api.Deed {
	d := api.Deed{Kind: g.n(15) - 1}
	if g.n(3) > 0 {
		d.Kind = g.of(api.DeedIssue, api.DeedFail, api.DeedTrip, api.DeedChange)
	}
	usual := func() int { return g.of(0, 1, 4, 17, 300, -2, api.MaxVal, api.Absent) }
	d.Who, d.N = usual()*g.of(0, 1), usual()*g.of(0, 1)
	d.On = g.n(5) == 0
	switch d.Kind {
	case api.DeedIssue:
		d.M = g.mutation(usual)
	case api.DeedFail, api.DeedTrip:
		d.Loss = api.Loss{Torn: usual(), At: usual()}
		for range g.of(0, 0, 1, 3, 20, 21) {
			d.Loss.Keep = append(d.Loss.Keep, usual())
		}
	case api.DeedChange:
		d.X = api.Change{Kind: g.n(5), ID: usual(), At: usual() * g.of(0, 1)}
	}
	if g.n(3) == 0 {
		g.bend(&d)
	}
	return d
}

func (g maker) mutation(usual func() int) api.Mut {
	m := api.Mut{Kind: g.n(7)}
	same := usual()
	for range g.of(0, 1, 1, 2, 2, 8, 9) {
		m.Pairs = append(m.Pairs, api.Pair{Key: usual(), Val: g.of(same, same, same, usual())})
	}
	switch m.Kind {
	case api.MutDel:
		m.Over = api.Span{Lo: usual(), Hi: usual()}
		if g.n(4) > 0 {
			m.Pairs = nil
		}
	case api.MutCas:
		m.Old = usual()
	}
	return m
}

// bend makes one field another one.
func (g maker) bend(d *api.Deed) {
	n := g.number()
	fields := []*int{&d.Who, &d.N, &d.M.Client, &d.M.Seq, &d.M.Kind, &d.M.Over.Lo, &d.M.Over.Hi, &d.M.Old, &d.X.Kind, &d.X.ID, &d.X.At, &d.Loss.Torn, &d.Loss.At}
	for i := range d.M.Pairs {
		fields = append(fields, &d.M.Pairs[i].Key, &d.M.Pairs[i].Val)
	}
	for i := range d.Loss.Keep {
		fields = append(fields, &d.Loss.Keep[i])
	}
	*fields[g.n(len(fields))] = n
}

// line is one that a deed has, or nearly.
func (g maker) line() string {
	s, e := tale.Show(g.wild())
	for e != api.OK {
		s, e = tale.Show(api.Deed{Kind: g.of(1, 2, 3, 4, 5, 8, 11, 12), Who: 0, N: 0})
	}
	w := strings.Split(s, " ")
	for range g.of(0, 0, 1, 1, 2) {
		i := g.n(len(w))
		odd := g.text("", "-", "-0", "00", "01", "+1", "1_0", "0x1", "1e3", "7,8", "7,,8", ",7", "7,", "none", "None", "999999999999999999", "1000000000000000000", "-999999999999999999", "-1000000000000000000", "1099511627777", "put", "cas", "issue", "calm", "fail", "\t", "1\n", "\n", "\x00", "٣")
		switch g.n(5) {
		case 0:
			w[i] = odd
		case 1:
			w[i] = strconv.Itoa(g.number())
		case 2:
			w = append(w[:i:i], w[i+1:]...)
			w = append(w, "5")[:max(len(w), 1)]
		case 3:
			w = append(w[:i:i], append([]string{odd}, w[i:]...)...)
		case 4:
			w = append(w, g.text("0", "1", "5 6", odd))
		}
	}
	return strings.Join(w, " ")
}

// Promise 19.1: lines are read, and deeds shown, as chapter 19 says, word by word.
func TestModel(t *testing.T) {
	g, l := maker{rand.New(rand.NewSource(191)).Intn}, grammar()
	lines, deeds := [2]int{}, [2]int{}
	for range 40000 {
		if agrees(t, g.line(), l) {
			lines[1]++
		} else {
			lines[0]++
		}
		if agreed(t, g.wild(), l) {
			deeds[1]++
		} else {
			deeds[0]++
		}
	}
	if min(lines[0], lines[1], deeds[0], deeds[1]) < 5000 {
		t.Errorf("%v lines, %v deeds", lines, deeds)
	}
}

func FuzzRead(f *testing.F) {
	l := grammar()
	for _, x := range samples() {
		f.Add(x.line)
	}
	f.Fuzz(func(t *testing.T, line string) { agrees(t, line, l) })
}

func FuzzShow(f *testing.F) {
	l := grammar()
	f.Add([]byte("some numbers, and more of them"))
	f.Fuzz(func(t *testing.T, b []byte) { agreed(t, fed(b).wild(), l) })
}

// fed makes things from bytes, and, behind their end, from nothing.
func fed(b []byte) maker {
	return maker{func(most int) int {
		if len(b) == 0 || most < 2 {
			return 0
		}
		n := int(b[0])
		b = b[1:]
		return n % most
	}}
}

// modelPlay is the report of deeds.
func modelPlay(nodes, shards int, on [][]api.Span, l []api.Deed) string {
	c := cluster.New(nodes, shards, on)
	s := ""
	for i, d := range l {
		s += fmt.Sprintf("%d ", i+1)
		switch {
		case d.Kind == api.DeedCalm:
			n, done := c.Calm()
			s += fmt.Sprintln(map[bool]string{true: "done", false: "not"}[done], n)
		case d.Kind == api.DeedRead && c.Client(d.Who) == nil:
			s += "error 4\n"
		case d.Kind == api.DeedRead:
			v, some, e := c.Client(d.Who).Read(d.N)
			if e != api.OK {
				s += fmt.Sprintln("error", e)
			} else if some {
				s += fmt.Sprintln(v)
			} else {
				s += "none\n"
			}
		default:
			if e := c.Do(d); e != api.OK {
				s += fmt.Sprintln("error", e)
			} else {
				s += "ok\n"
			}
		}
	}
	pending := 0
	for i := range len(on) {
		pending += len(c.Client(i + 1).Pending())
	}
	order, e := judge.Order(c.Cores())
	if e != api.OK {
		panic(e)
	}
	return s + fmt.Sprintf("cores %d order %d missing %d pending %d epoch %d\n", len(c.Cores()), len(order), judge.Missing(c.Cores()), pending, c.Chart().Epoch)
}

// useful is the line of a deed that may be of use.
func (g maker) useful() string {
	who, client, key, val := g.of(0, 0, 1, 2, 3, 9), 1+g.n(4), g.of(0, 5, 6, 99, 100, 1500, 2048, 4000, 4095), g.n(9)-2
	keys := []int{0, 5, 99, 2048, 4000, 4095}
	loss := g.text("-", "0,1,2,3,4,5,6,7", "1000,1001,1002,2", "3") + fmt.Sprintf(" %d %d", g.of(-1, -1, 0, 2, 1000), g.of(0, 1, 100, 256))
	switch g.n(16) {
	case 0:
		i := g.n(5)
		return fmt.Sprintf("issue %d put %d %d %d 1", client, keys[i], val, keys[i+1])
	case 1:
		return fmt.Sprintf("issue %d del %d %d", client, key, key+g.of(0, 1, 10, 50))
	case 2:
		return fmt.Sprintf("issue %d add %d %d", client, key, val)
	case 3:
		return fmt.Sprintf("issue %d cas %d %d %s", client, key, val, g.text("none", "0", "1", "-1"))
	case 4:
		return fmt.Sprintf("issue %d move %d %d %d", client, key, g.of(keys...), val)
	case 5:
		return fmt.Sprintf("tell %d", client)
	case 6:
		return fmt.Sprintf("%s %d", g.text("tick", "tick", "wake"), who)
	case 7, 8, 9:
		return fmt.Sprintf("mail %d", g.n(30))
	case 10:
		return fmt.Sprintf("%s %d", g.text("twice", "lose"), g.n(30)-1)
	case 11:
		return fmt.Sprintf("%s %d %d", g.text("apart", "join", "join"), g.of(0, 1, 9, 17), g.of(0, 1, 9, 18, 64))
	case 12:
		return fmt.Sprintf("%s %s", g.text(fmt.Sprint("fail ", who), fmt.Sprintf("trip %d %d", who, g.n(5))), loss)
	case 13:
		return g.text(fmt.Sprintf("split %d %d", 1+g.n(6), key), fmt.Sprintf("merge %d", 1+g.n(6)), fmt.Sprintf("shift %d %d", 1+g.n(6), g.n(4)))
	case 14:
		return g.text("calm", "tick 9", "tell 1")
	}
	return fmt.Sprintf("read %d %d", client, key)
}

// stage is a cluster to be, and a tale of it.
type stage struct {
	nodes, shards int
	on            [][]api.Span
	text          string
}

func (g maker) stage(lines int) stage {
	x := stage{nodes: 1 + g.n(3), shards: 1 + g.n(4)}
	for range g.n(5) {
		x.on = append(x.on, []api.Span{{Lo: g.of(0, 0, 5), Hi: g.of(100, api.MaxKey, api.MaxKey)}})
	}
	for range lines {
		switch g.n(20) {
		case 0:
			x.text += "#" + g.text("", " calm", "calm", "\x00", "#") + "\n"
		case 1:
			x.text += "\n"
		default:
			x.text += g.useful() + "\n"
		}
	}
	return x
}

// plays looks whether a tale is told as the model tells it, again and again, and nothing is missing. It answers the report's lines.
func plays(t *testing.T, x stage, l []form) []string {
	t.Helper()
	var deeds []api.Deed
	for _, s := range strings.Split(x.text, "\n") {
		if s != "" && s[0] != '#' {
			d, is := modelRead(s, l)
			if !is {
				t.Fatalf("%q is no line", s)
			}
			deeds = append(deeds, d)
		}
	}
	s, e := tale.Play(x.nodes, x.shards, x.on, x.text)
	if want := modelPlay(x.nodes, x.shards, x.on, deeds); e != api.OK || s != want {
		t.Fatalf("Play(%v): %d, %q, not %q", x, e, s, want)
	}
	if again, e := tale.Play(x.nodes, x.shards, x.on, x.text); e != api.OK || again != s {
		t.Fatalf("Play(%v): %q becomes %q", x, s, again)
	}
	if !strings.Contains(s, " missing 0 ") {
		t.Fatalf("Play(%v): %q", x, s)
	}
	return strings.Split(strings.TrimSuffix(s, "\n"), "\n")
}

// Promises 19.2 and 19.3: a tale is told as chapter 19 says, word by word; the same one has the same report, and nothing is missing.
func TestPlays(t *testing.T) {
	g, l := maker{rand.New(rand.NewSource(192)).Intn}, grammar()
	told := map[string]int{} // by the first word behind the deed's number
	for range 120 {
		lines := plays(t, g.stage(g.of(0, 1, 60, 150, 299)), l)
		for _, s := range lines[:len(lines)-1] {
			w := strings.Split(s, " ")[1]
			if _, err := strconv.Atoi(w); err == nil {
				w = "value"
			}
			told[w]++
		}
	}
	for _, w := range []string{"ok", "error", "done", "value", "none"} {
		if told[w] < 100 {
			t.Errorf("%d times %s", told[w], w)
		}
	}
}

func FuzzPlay(f *testing.F) {
	l := grammar()
	f.Add([]byte("some numbers, and some more of them"))
	f.Fuzz(func(t *testing.T, b []byte) { plays(t, fed(b).stage(min(len(b)/4, 60)), l) })
}
