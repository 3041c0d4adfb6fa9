package tale_test

import (
	"fmt"
	"math"
	"math/rand"
	"reflect"
	"slices"
	"strings"
	"testing"

	"splice/api"
	"splice/tale"
)

// sample is a line and its deed.
type sample struct {
	line string
	deed api.Deed
}

func mutates(who int, m api.Mut) api.Deed {
	return api.Deed{Kind: api.DeedIssue, Who: who, M: m}
}

func changes(kind, id, at int) api.Deed {
	return api.Deed{Kind: api.DeedChange, X: api.Change{Kind: kind, ID: id, At: at}}
}

// twenty is so many numbers, from a first one on.
func twenty(from int) []int {
	var l []int
	for i := range 20 {
		l = append(l, from+i)
	}
	return l
}

// samples are lines of each form, and their deeds.
func samples() []sample {
	eight := []api.Pair{{Key: 1, Val: 2}, {Key: 3, Val: 4}, {Key: 5, Val: 6}, {Key: 7, Val: 8}, {Key: 9, Val: 10}, {Key: 11, Val: 12}, {Key: 13, Val: 14}, {Key: 15, Val: -16}}
	return []sample{
		{"issue 1 put 5 7", mutates(1, api.Mut{Kind: api.MutPut, Pairs: []api.Pair{{Key: 5, Val: 7}}})},
		{"issue 2 put 5 7 4000 -9", mutates(2, api.Mut{Kind: api.MutPut, Pairs: []api.Pair{{Key: 5, Val: 7}, {Key: 4000, Val: -9}}})},
		{"issue 0 put 9 1 -2 0", mutates(0, api.Mut{Kind: api.MutPut, Pairs: []api.Pair{{Key: 9, Val: 1}, {Key: -2}}})}, // which may not be, but can be told
		{"issue -4 put 1 2 3 4 5 6 7 8 9 10 11 12 13 14 15 -16", mutates(-4, api.Mut{Kind: api.MutPut, Pairs: eight})},
		{"issue 1 del 0 9", mutates(1, api.Mut{Kind: api.MutDel, Over: api.Span{Hi: 9}})},
		{"issue 1 del 9 -3", mutates(1, api.Mut{Kind: api.MutDel, Over: api.Span{Lo: 9, Hi: -3}})},
		{"issue 1 add 5 -8", mutates(1, api.Mut{Kind: api.MutAdd, Pairs: []api.Pair{{Key: 5, Val: -8}}})},
		{"issue 1 cas 1 2 3", mutates(1, api.Mut{Kind: api.MutCas, Pairs: []api.Pair{{Key: 1, Val: 2}}, Old: 3})},
		{"issue 1 cas 1 2 none", mutates(1, api.Mut{Kind: api.MutCas, Pairs: []api.Pair{{Key: 1, Val: 2}}, Old: api.Absent})},
		{"issue 1 cas 1 1099511627777 0", mutates(1, api.Mut{Kind: api.MutCas, Pairs: []api.Pair{{Key: 1, Val: api.Absent}}})},
		{"issue 1 cas 1 2 1099511627778", mutates(1, api.Mut{Kind: api.MutCas, Pairs: []api.Pair{{Key: 1, Val: 2}}, Old: api.Absent + 1})},
		{"issue 2 move 1 2 3", mutates(2, api.Mut{Kind: api.MutMove, Pairs: []api.Pair{{Key: 1, Val: 3}, {Key: 2, Val: 3}}})},
		{"tell 1", api.Deed{Kind: api.DeedTell, Who: 1}},
		{"tick 9", api.Deed{Kind: api.DeedTick, Who: 9}},
		{"wake 0", api.Deed{Kind: api.DeedWake}},
		{"mail 3", api.Deed{Kind: api.DeedMail, N: 3}},
		{"twice 0", api.Deed{Kind: api.DeedTwice}},
		{"lose -1", api.Deed{Kind: api.DeedLose, N: -1}},
		{"apart 0 17", api.Deed{Kind: api.DeedApart, N: 17, On: true}},
		{"join 2 1", api.Deed{Kind: api.DeedApart, Who: 2, N: 1}},
		{"fail 1 - -1 0", api.Deed{Kind: api.DeedFail, Who: 1, Loss: api.Loss{Torn: -1}}},
		{"fail 9 0 0 0", api.Deed{Kind: api.DeedFail, Who: 9, Loss: api.Loss{Keep: []int{0}}}},
		{"fail 1 10,11,12,13,14,15,16,17,18,19,20,21,22,23,24,25,26,27,28,29 7 256", api.Deed{Kind: api.DeedFail, Who: 1, Loss: api.Loss{Keep: twenty(10), Torn: 7, At: 256}}},
		{"trip 1 4 7,8 3 5", api.Deed{Kind: api.DeedTrip, Who: 1, N: 4, Loss: api.Loss{Keep: []int{7, 8}, Torn: 3, At: 5}}},
		{"trip 1 -4 8,-7,8 3 -5", api.Deed{Kind: api.DeedTrip, Who: 1, N: -4, Loss: api.Loss{Keep: []int{8, -7, 8}, Torn: 3, At: -5}}},
		{"split 1 9", changes(api.Split, 1, 9)},
		{"merge 2", changes(api.Merge, 2, 0)},
		{"shift 1 2", changes(api.Shift, 1, 2)},
		{"calm", api.Deed{Kind: api.DeedCalm}},
		{"read 1 0", api.Deed{Kind: api.DeedRead, Who: 1}},
	}
}

// shows looks whether a line and a deed are each the other one's.
func shows(t *testing.T, line string, d api.Deed) {
	t.Helper()
	if s, e := tale.Show(d); e != api.OK || s != line {
		t.Errorf("Show(%v): %q, %d, not %q", d, s, e, line)
	}
	if x, e := tale.Read(line); e != api.OK || !equal(x, d) {
		t.Errorf("Read(%q): %v, %d, not %v", line, x, e, d)
	}
}

// lacks looks whether a deed has no line.
func lacks(t *testing.T, d api.Deed) {
	t.Helper()
	if s, e := tale.Show(d); e != api.ErrArg || s != "" {
		t.Errorf("Show(%v): %q, %d", d, s, e)
	}
}

// refuses looks whether a line is none.
func refuses(t *testing.T, line string) {
	t.Helper()
	if d, e := tale.Read(line); e != api.ErrForm || !reflect.DeepEqual(d, api.Deed{}) {
		t.Errorf("Read(%q): %v, %d", line, d, e)
	}
}

// Promise 19.1: each form of lines is shown and read; empty lists are none.
func TestForms(t *testing.T) {
	kinds := map[int]bool{}
	for _, x := range samples() {
		shows(t, x.line, x.deed)
		kinds[x.deed.Kind] = true
		if x.deed.M.Pairs == nil {
			x.deed.M.Pairs = []api.Pair{}
		}
		if x.deed.Loss.Keep == nil {
			x.deed.Loss.Keep = []int{}
		}
		shows(t, x.line, x.deed)
	}
	if len(kinds) != 13 {
		t.Errorf("%d kinds", len(kinds))
	}
}

// Promise 19.1: a deed that has anything that its line does not name has no line.
func TestUnnamed(t *testing.T) {
	l := grammar()
	bends := []func(*api.Deed){
		func(d *api.Deed) { d.Who++ }, func(d *api.Deed) { d.N++ }, func(d *api.Deed) { d.On = !d.On },
		func(d *api.Deed) { d.M.Client++ }, func(d *api.Deed) { d.M.Seq++ }, func(d *api.Deed) { d.M.Kind++ },
		func(d *api.Deed) { d.M.Pairs = append(slices.Clone(d.M.Pairs), api.Pair{Key: 3, Val: 3}) },
		func(d *api.Deed) { d.M.Over.Lo++ }, func(d *api.Deed) { d.M.Over.Hi++ }, func(d *api.Deed) { d.M.Old-- },
		func(d *api.Deed) { d.X.Kind++ }, func(d *api.Deed) { d.X.ID++ }, func(d *api.Deed) { d.X.At++ },
		func(d *api.Deed) { d.Loss.Keep = append(slices.Clone(d.Loss.Keep), 0) },
		func(d *api.Deed) { d.Loss.Torn-- }, func(d *api.Deed) { d.Loss.At-- },
	}
	names := map[int][]int{ // the fields that lines of a kind name, but for a mutation's and a change's
		api.DeedIssue: {0}, api.DeedTell: {0}, api.DeedTick: {0}, api.DeedWake: {0}, api.DeedMail: {1}, api.DeedTwice: {1}, api.DeedLose: {1},
		api.DeedApart: {0, 1, 2}, api.DeedFail: {0, 13, 14, 15}, api.DeedTrip: {0, 1, 13, 14, 15}, api.DeedRead: {0, 1},
	}
	for _, x := range samples() {
		for i, bend := range bends {
			d := x.deed
			bend(&d)
			is := agreed(t, d, l)
			inner := x.deed.Kind == api.DeedIssue && 5 <= i && i <= 9 || x.deed.Kind == api.DeedChange && 10 <= i && i <= 12
			full := i == 13 && len(x.deed.Loss.Keep) == 20
			if want := slices.Contains(names[x.deed.Kind], i) && !full; !inner && is != want {
				t.Errorf("%v has a line: %v", d, is)
			}
		}
	}
	for _, d := range []api.Deed{
		changes(api.Merge, 2, 1), changes(0, 1, 2), changes(4, 1, 2), changes(-1, 1, 2),
		mutates(1, api.Mut{}), mutates(1, api.Mut{Kind: 6}), mutates(1, api.Mut{Kind: -1}),
		mutates(1, api.Mut{Kind: api.MutPut}), mutates(1, api.Mut{Kind: api.MutAdd}), mutates(1, api.Mut{Kind: api.MutCas}), mutates(1, api.Mut{Kind: api.MutMove}),
		mutates(1, api.Mut{Kind: api.MutPut, Pairs: make([]api.Pair, 9)}), mutates(1, api.Mut{Kind: api.MutPut, Pairs: make([]api.Pair, 1<<20)}),
		mutates(1, api.Mut{Kind: api.MutAdd, Pairs: make([]api.Pair, 2)}), mutates(1, api.Mut{Kind: api.MutCas, Pairs: make([]api.Pair, 2)}),
		mutates(1, api.Mut{Kind: api.MutMove, Pairs: make([]api.Pair, 1)}), mutates(1, api.Mut{Kind: api.MutMove, Pairs: make([]api.Pair, 3)}),
		mutates(1, api.Mut{Kind: api.MutMove, Pairs: []api.Pair{{Key: 1, Val: 3}, {Key: 2, Val: 4}}}),
		mutates(1, api.Mut{Kind: api.MutPut, Client: 1, Pairs: make([]api.Pair, 1)}), mutates(1, api.Mut{Kind: api.MutPut, Seq: 1, Pairs: make([]api.Pair, 1)}),
		mutates(1, api.Mut{Kind: api.MutPut, Old: 1, Pairs: make([]api.Pair, 1)}), mutates(1, api.Mut{Kind: api.MutDel, Pairs: make([]api.Pair, 1)}),
		mutates(1, api.Mut{Kind: api.MutAdd, Old: api.Absent, Pairs: make([]api.Pair, 1)}), mutates(1, api.Mut{Kind: api.MutCas, Over: api.Span{Hi: 1}, Pairs: make([]api.Pair, 1)}),
		{Kind: api.DeedFail, Loss: api.Loss{Keep: make([]int, 21)}}, {Kind: api.DeedTrip, Loss: api.Loss{Keep: make([]int, 1<<20)}},
		{Kind: -1}, {Kind: 13}, {Kind: math.MaxInt}, {Kind: math.MinInt}, {Kind: api.DeedCalm, Who: 1}, {Kind: api.DeedCalm, N: 1}, {Kind: api.DeedCalm, On: true},
		{Kind: api.DeedRead, On: true}, {Kind: api.DeedMail, Who: 1}, {Kind: api.DeedTell, N: 1}, {Kind: api.DeedTick, X: api.Change{At: 1}},
	} {
		lacks(t, d)
	}
}

// Promise 19.1: a number has one way to be written, and 18 digits at most.
func TestNumbers(t *testing.T) {
	for _, x := range samples() {
		words := strings.Split(x.line, " ")
		for i := 1; i < len(words); i++ {
			if !strings.ContainsAny(words[i], "0123456789") || strings.Contains(words[i], ",") {
				continue
			}
			with := func(w string) string {
				l := slices.Clone(words)
				l[i] = w
				return strings.Join(l, " ")
			}
			for _, w := range []string{"0", "9", "10", "-1", "-10", "999999999999999999", "-999999999999999999"} {
				d, e := tale.Read(with(w))
				if s, f := tale.Show(d); e != api.OK || f != api.OK || s != with(w) {
					t.Errorf("Read(%q): %v, %d; %q", with(w), d, e, s)
				}
			}
			for _, w := range []string{"", "-", "--1", "-0", "00", "01", "-01", "+1", "1.", "1.0", "1e3", "0x1", "1_0", "a", "1a", "٣", "1,", ",1", "1\t", "\t1", "1\n", "\x001", "none", "None",
				"1000000000000000000", "-1000000000000000000", "9223372036854775807", "-9223372036854775808", "18446744073709551616", "000000000000000000000001", strings.Repeat("1", 100000)} {
				if words[1] == "1" && words[0] == "issue" && words[2] == "cas" && i == 5 && w == "none" || words[0] == "fail" && i == 2 && w == "-" {
					continue
				}
				refuses(t, with(w))
			}
		}
	}
	for _, n := range []int{1e18, -1e18, math.MaxInt, math.MinInt} {
		for _, d := range []api.Deed{
			{Kind: api.DeedTell, Who: n}, {Kind: api.DeedMail, N: n}, {Kind: api.DeedApart, Who: n, On: true}, {Kind: api.DeedApart, N: n}, {Kind: api.DeedRead, N: n},
			{Kind: api.DeedFail, Loss: api.Loss{Keep: []int{n}}}, {Kind: api.DeedFail, Loss: api.Loss{Torn: n}}, {Kind: api.DeedTrip, Loss: api.Loss{At: n}}, {Kind: api.DeedTrip, N: n},
			changes(api.Split, n, 1), changes(api.Split, 1, n), changes(api.Merge, n, 0), changes(api.Shift, 1, n),
			mutates(n, api.Mut{Kind: api.MutDel}), mutates(1, api.Mut{Kind: api.MutDel, Over: api.Span{Lo: n}}), mutates(1, api.Mut{Kind: api.MutDel, Over: api.Span{Hi: n}}),
			mutates(1, api.Mut{Kind: api.MutPut, Pairs: []api.Pair{{Key: n}}}), mutates(1, api.Mut{Kind: api.MutAdd, Pairs: []api.Pair{{Val: n}}}),
			mutates(1, api.Mut{Kind: api.MutCas, Pairs: []api.Pair{{}}, Old: n}), mutates(1, api.Mut{Kind: api.MutMove, Pairs: []api.Pair{{Val: n}, {Val: n}}}),
		} {
			lacks(t, d)
		}
	}
}

// Promise 19.1: the Old that is absent is written in one way only.
func TestAbsent(t *testing.T) {
	refuses(t, "issue 1 cas 1 2 1099511627777")
	refuses(t, "issue 1 put 1 none")
	refuses(t, "issue 1 add 1 none")
	refuses(t, "issue 1 cas 1 none 2")
	refuses(t, "issue 1 cas none 1 2")
	refuses(t, "read 1 none")
	shows(t, "read 1 1099511627777", api.Deed{Kind: api.DeedRead, Who: 1, N: api.Absent})
}

// Promise 19.1: a line has no word too many and none too few, and one blank between two of them.
func TestWords(t *testing.T) {
	for _, x := range samples() {
		words := strings.Split(x.line, " ")
		for i := range words {
			if less := strings.Join(words[:i], " "); !strings.HasPrefix(x.line, "issue ") || i%2 == 0 || i < 5 { // a put may have fewer pairs
				refuses(t, less)
			}
			with := func(w string) string { return strings.Join(slices.Insert(slices.Clone(words), i, w), " ") }
			refuses(t, with(""))
			refuses(t, with("x"))
			refuses(t, with("#"))
			l := slices.Clone(words)
			l[i] = strings.ToUpper(l[i]) + "."
			refuses(t, strings.Join(l, " "))
		}
		for _, end := range []string{" ", "  ", "\n", "\r", "\x00", "\t", " -", " x", " 0 0 0"} {
			refuses(t, x.line+end)
			refuses(t, end+x.line)
		}
		if words[0] != "merge" { // with one more it may be another one
			refuses(t, x.line+" 0")
		}
		refuses(t, strings.ReplaceAll(x.line, " ", "  ")+" ")
		refuses(t, "#"+x.line)
		refuses(t, strings.ToUpper(x.line))
	}
	for _, s := range []string{"", " ", "#", "\n", "issue", "issue 1", "issue 1 put", "issue 1 put 1", "issue 1 put 1 2 3", "issue put 1 2", "issue 1 inc 1 2", "issue 1 move 1 2 3 4", "issue 1 move 1 2",
		"calm 0", "calm ", "mail", "merge 1 0", "merge", "split 1", "fail 1 -", "fail 1 - 0", "fail 1 -1 0", "trip 1 - -1 0", "trip 1 4 7,,8 3 5", "apart 0", "join", "read 1", "tell", "drop 1", "change 1 1 2", "\xff 1"} {
		refuses(t, s)
	}
}

// Promise 19.1: a put has one to eight pairs.
func TestPairs(t *testing.T) {
	line := "issue 3 put"
	m := api.Mut{Kind: api.MutPut}
	for i := range 12 {
		refuses(t, line+fmt.Sprint(" ", i))
		line += fmt.Sprintf(" %d %d", 10-i, i)
		m.Pairs = append(m.Pairs, api.Pair{Key: 10 - i, Val: i})
		if i < api.MaxPairs {
			shows(t, line, mutates(3, m))
		} else {
			refuses(t, line)
			lacks(t, mutates(3, m))
		}
	}
	refuses(t, "issue 3 put"+strings.Repeat(" 1 2", 1<<20))
}

// Promise 19.1: a loss keeps at most twenty blocks, with one comma between two of them.
func TestKeep(t *testing.T) {
	for n := range 25 {
		keep := strings.TrimSuffix(strings.Repeat("4,", n), ",")
		if n == 0 {
			keep = "-"
		}
		fails := api.Deed{Kind: api.DeedFail, Who: 2, Loss: api.Loss{Keep: slices.Repeat([]int{4}, n), Torn: 1, At: 9}}
		trips := fails
		trips.Kind, trips.N = api.DeedTrip, 6
		if n <= 20 {
			shows(t, "fail 2 "+keep+" 1 9", fails)
			shows(t, "trip 2 6 "+keep+" 1 9", trips)
		} else {
			refuses(t, "fail 2 "+keep+" 1 9")
			refuses(t, "trip 2 6 "+keep+" 1 9")
			lacks(t, fails)
			lacks(t, trips)
		}
	}
	for _, keep := range []string{"", "--", "-,-", "-,4", "4,-", ",", "4,", ",4", "4,,4", "4, 4", "4 ,4", "4;4", "04", "4,04", "4,-0", "none", "1000000000000000000", "4,x", strings.Repeat("4,", 1<<20)} {
		refuses(t, "fail 2 "+keep+" 1 9")
		refuses(t, "trip 2 6 "+keep+" 1 9")
	}
}

// all is the set of all keys.
func all() []api.Span {
	return []api.Span{{Lo: 0, Hi: api.MaxKey}}
}

// reports looks at a tale's report, line by line.
func reports(t *testing.T, nodes, shards int, on [][]api.Span, text string, want ...string) {
	t.Helper()
	s, e := tale.Play(nodes, shards, on, text)
	if all := strings.Join(want, "\n") + "\n"; e != api.OK || s != all {
		t.Errorf("Play of %q: %d,\n%snot\n%s", text, e, s, all)
	}
}

// fails looks at the error of a tale.
func fails(t *testing.T, nodes, shards int, on [][]api.Span, text string, want api.Errno) {
	t.Helper()
	if s, e := tale.Play(nodes, shards, on, text); e != want || s != "" {
		t.Errorf("Play of %d, %d, %v, %.100q: %q, %d, not %d", nodes, shards, on, text, s, e, want)
	}
}

// Promise 19.2: the errors of a tale, and their order.
func TestPlayErrors(t *testing.T) {
	on := [][]api.Span{all()}
	long := strings.Repeat("calm 0\n", tale.MaxLines+1) + "x"
	for _, text := range []string{"", "calm\n", "calm", "x\n", long} {
		fails(t, 0, 1, on, text, api.ErrArg)
		fails(t, 6, 1, on, text, api.ErrArg)
		fails(t, 1, 0, on, text, api.ErrArg)
		fails(t, 1, 25, on, text, api.ErrArg)
		fails(t, math.MaxInt, math.MinInt, nil, text, api.ErrArg)
		fails(t, 1, 1, [][]api.Span{all(), nil}, text, api.ErrArg)
		fails(t, 1, 1, [][]api.Span{{{Lo: 5, Hi: 5}}}, text, api.ErrArg)
		fails(t, 1, 1, [][]api.Span{all(), all(), all(), all(), all()}, text, api.ErrArg)
	}
	fails(t, 1, 1, on, long, api.ErrLong)
	for _, line := range []string{"\n", "#\n", "tell 1\n", "x\n"} {
		fails(t, 1, 1, on, strings.Repeat(line, 301), api.ErrLong)
		fails(t, 1, 1, on, strings.Repeat(line, 301)+"tell 1", api.ErrLong)
		fails(t, 1, 1, on, strings.Repeat(line, 300)+"tell 1", api.ErrForm)
		fails(t, 1, 1, on, strings.Repeat(line, 300)+"#", api.ErrForm)
	}
	for _, text := range []string{"calm", "#", " ", "calm\ncalm", "calm\n#", "calm\n ", "x\n", " \n", "calm\r\n", "\t\n", " calm\n", " # no\n", "calm # no\n", "calm\nx\n", "x\ncalm\n",
		"calm \n", "calm\n\x00\n", "calm;calm\n", "issue 1 put 5\n", "read 1 5 \n", strings.Repeat("x", 1<<20) + "\n"} {
		fails(t, 1, 1, on, text, api.ErrForm)
	}
}

// Promise 19.2: lines that are empty or begin with # are no deeds; a tale has 300 lines at most.
func TestPlayLines(t *testing.T) {
	on := [][]api.Span{all()}
	end := "cores 1 order 0 missing 0 pending 0 epoch 1"
	reports(t, 1, 1, on, "", end)
	reports(t, 1, 1, nil, "", end)
	reports(t, 1, 1, on, "\n", end)
	reports(t, 1, 1, on, "\n\n#\n#calm\n# a remark\n##\n#\x00\xff\n\n", end)
	reports(t, 1, 1, on, strings.Repeat("\n", 299)+"read 1 5\n", "1 none", end)
	reports(t, 1, 1, on, "\n#\nread 1 5\n\nread 2 5\n#\nread 1 4096\n", "1 none", "2 error 4", "3 error 1", end)
	reports(t, 1, 1, on, "#"+strings.Repeat("x", 1<<20)+"\nread 1 5\n", "1 none", end)
	var want []string
	for i := range 300 {
		want = append(want, fmt.Sprintf("%d none", i+1))
	}
	reports(t, 1, 1, on, strings.Repeat("read 1 5\n", 300), append(want, end)...)
	if tale.MaxLines != 300 {
		t.Errorf("MaxLines is %d", tale.MaxLines)
	}
}

// Promise 19.2: what is told of deeds of each kind, in the order in which they were done.
func TestPlayDeeds(t *testing.T) {
	on := [][]api.Span{all(), {{Lo: 0, Hi: 100}}}
	reports(t, 2, 2, on, "issue 1 put 5 7\nissue 2 put 100 1\nissue 3 put 5 7\nissue 1 move 5 5 1\nissue 1 cas 5 6 7\nread 1 5\nread 2 5\nread 0 5\nread 3 5\nread -1 5\nread 2 100\nread 1 -1\n",
		"1 ok", "2 error 1", "3 error 4", "4 error 1", "5 ok", "6 6", "7 none", "8 error 4", "9 error 4", "10 error 4", "11 error 1", "12 error 1",
		"cores 2 order 0 missing 0 pending 2 epoch 1")
	reports(t, 1, 1, on, "issue 1 put 5 -7 6 0\nread 1 5\nread 1 6\nissue 1 del 6 7\nread 1 6\ntell 3\ntell 1\nmail -1\nmail 0\nread 2 5\n",
		"1 ok", "2 -7", "3 0", "4 ok", "5 none", "6 error 4", "7 ok", "8 error 1", "9 ok", "10 none",
		"cores 1 order 1 missing 0 pending 2 epoch 1")
	reports(t, 2, 1, on, "mail 0\ntwice 0\nlose 0\ntell 2\ntwice 0\ntwice 5\nlose 1\nmail 7\nmail 0\nmail 0\nmail 0\nmail 0\n",
		"1 error 4", "2 error 4", "3 error 4", "4 ok", "5 ok", "6 ok", "7 ok", "8 ok", "9 ok", "10 ok", "11 ok", "12 error 4",
		"cores 1 order 0 missing 0 pending 0 epoch 1")
	reports(t, 2, 1, on, "tick 0\ntick 2\nwake 0\nfail 0 - -1 0\nfail 0 - -1 0\ntick 0\nwake 0\ntick 0\nwake 9\nfail 9 1,2 3 4\nsplit 1 5\nwake 9\nsplit 1 5\nsplit 1 6\nfail 2 - -1 0\nwake 2\ntrip 2 1 - -1 0\ntrip 1 1 - -1 0\n",
		"1 ok", "2 error 4", "3 error 7", "4 ok", "5 error 9", "6 error 9", "7 ok", "8 ok", "9 error 7", "10 ok", "11 error 9", "12 ok", "13 ok", "14 error 61", "15 error 4", "16 error 4", "17 error 4", "18 ok",
		"cores 1 order 0 missing 0 pending 0 epoch 1")
	reports(t, 1, 1, on, "apart 0 17\ntell 1\nmail 0\njoin 0 17\nmail 0\napart 0 64\njoin 64 0\n",
		"1 ok", "2 ok", "3 error 4", "4 ok", "5 ok", "6 error 1", "7 error 1",
		"cores 1 order 0 missing 0 pending 0 epoch 1")
	reports(t, 2, 2, on, "shift 1 2\nshift 1 1\ncalm\nmerge 3\ncalm\nsplit 4 4000\ncalm\nmerge 9\n",
		"1 error 1", "2 ok", "3 done 5", "4 ok", "5 done 5", "6 ok", "7 done 5", "8 error 4",
		"cores 6 order 0 missing 0 pending 0 epoch 4")
}

// Promise 19.2: the rounds of Calm, and what is read behind it.
func TestPlayCalm(t *testing.T) {
	on := [][]api.Span{all()}
	reports(t, 1, 1, on, "calm\n", "1 done 4", "cores 1 order 0 missing 0 pending 0 epoch 1")
	reports(t, 1, 1, on, "issue 1 put 5 1\nissue 1 add 5 1\nissue 1 add 5 1\nread 1 5\ncalm\ncalm\nread 1 5\n",
		"1 ok", "2 ok", "3 ok", "4 3", "5 done 6", "6 done 4", "7 3", "cores 1 order 3 missing 0 pending 0 epoch 1")
}

// The chapter's examples.
func TestExamples(t *testing.T) {
	reports(t, 1, 1, [][]api.Span{all()}, "issue 1 put 5 7\ncalm\nread 1 5\nread 1 6\nread 2 5\n",
		"1 ok", "2 done 4", "3 7", "4 none", "5 error 4", "cores 1 order 1 missing 0 pending 0 epoch 1")
	s, e := tale.Play(2, 2, [][]api.Span{all(), {{Lo: 0, Hi: 100}}}, "issue 1 put 5 7 4000 9\nissue 1 add 5 -8\nissue 2 cas 6 1 none\nissue 2 add 4000 1\n")
	if e != api.OK || !strings.HasPrefix(s, "1 ok\n2 ok\n3 ok\n4 error 1\n") {
		t.Errorf("%q, %d", s, e)
	}
	shows(t, "trip 1 4 7,8 3 5", api.Deed{Kind: api.DeedTrip, Who: 1, N: 4, Loss: api.Loss{Keep: []int{7, 8}, Torn: 3, At: 5}})
	for _, line := range []string{"calm 0", "mail", "trip 1 4 7,,8 3 5"} {
		refuses(t, line)
	}
	fails(t, 1, 1, nil, "calm", api.ErrForm)
}

// Rule 3: what is answered has its own memory, and what is handed in stays as it is.
func TestApart(t *testing.T) {
	for _, x := range samples() {
		was := fmt.Sprint(x.deed)
		tale.Show(x.deed)
		if now := fmt.Sprint(x.deed); now != was {
			t.Fatalf("%s becomes %s", was, now)
		}
		d, _ := tale.Read(x.line)
		pairs, keep := d.M.Pairs[:cap(d.M.Pairs)], d.Loss.Keep[:cap(d.Loss.Keep)]
		for i := range pairs {
			pairs[i] = api.Pair{Key: 77, Val: 77}
		}
		for i := range keep {
			keep[i] = 77
		}
		shows(t, x.line, x.deed)
	}
	g := maker{rand.New(rand.NewSource(193)).Intn}
	x := g.stage(50)
	was := fmt.Sprint(x)
	tale.Play(x.nodes, x.shards, x.on, x.text)
	if now := fmt.Sprint(x); now != was {
		t.Fatalf("%s becomes %s", was, now)
	}
}
