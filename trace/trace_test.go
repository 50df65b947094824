package trace

import (
	"errors"
	"fmt"
	"math"
	"reflect"
	"slices"
	"strings"
	"testing"

	"clepsydra/api"
	"clepsydra/check"
	"clepsydra/emit"
	"clepsydra/net"
	"clepsydra/parse"
	"clepsydra/plain"
	"clepsydra/run"
)

// same tells whether two lists of ticks are, whether an empty one is nil or not.
func same(a, b [][]int64) bool {
	return slices.EqualFunc(a, b, slices.Equal[[]int64])
}

// is fails the test unless an error is this one, at a place, or, if that is -1, without
// any At; and unless there is nothing beside it.
func is(t *testing.T, what string, l [][]int64, err error, want api.Errno, place int) {
	t.Helper()
	e, at := plain.Place(err)
	if e != want || at != place || want == api.OK && err != nil {
		t.Errorf("%.200s: %v at %d; want %v at %d", what, e, at, want, place)
	}
	var a *api.At
	if errors.As(err, &a) != (place >= 0) || a != nil && a.Err != want {
		t.Errorf("%.200s: an At in %v", what, err)
	}
	if err != nil && l != nil {
		t.Errorf("%.200s: %v beside an error", what, l)
	}
}

// reads fails the test unless Read tells these ticks of a text.
func reads(t *testing.T, s string, want ...[]int64) {
	t.Helper()
	l, err := Read(s)
	is(t, fmt.Sprintf("%q", s), l, err, api.OK, -1)
	if !same(l, want) {
		t.Errorf("%.200q: %.200s; want %.200s", s, fmt.Sprint(l), fmt.Sprint(want))
	}
}

// wrong fails the test unless Read tells ErrForm at a line.
func wrong(t *testing.T, s string, line int) {
	t.Helper()
	l, err := Read(s)
	is(t, fmt.Sprintf("%q", s), l, err, api.ErrForm, line)
}

// Promise 14.1: line by line, cut at line feeds, of which one at the end is left out.
func TestLines(t *testing.T) {
	reads(t, "")
	reads(t, "\n", nil)
	reads(t, " ", nil)
	reads(t, " \n", nil)
	reads(t, "\n\n", nil, nil)
	reads(t, "\n ", nil, nil)
	reads(t, "\n \n\n", nil, nil, nil)
	reads(t, "7", []int64{7})
	reads(t, "7\n", []int64{7})
	reads(t, "7\n\n", []int64{7}, nil)
	reads(t, "\n7", nil, []int64{7})
	reads(t, "7\n8", []int64{7}, []int64{8})
	reads(t, "7\n\n8\n", []int64{7}, nil, []int64{8})
	reads(t, "1 2\n3\n\n4 5 6\n", []int64{1, 2}, []int64{3}, nil, []int64{4, 5, 6})
}

// Promise 14.1: several blanks between numbers, and at both ends.
func TestBlanks(t *testing.T) {
	reads(t, "1 2", []int64{1, 2})
	reads(t, "1     2", []int64{1, 2})
	reads(t, "   1 2", []int64{1, 2})
	reads(t, "1 2   ", []int64{1, 2})
	reads(t, "  1  -2 \n   \n 3 ", []int64{1, -2}, nil, []int64{3})
	reads(t, strings.Repeat(" ", 5000)+"1"+strings.Repeat(" ", 5000)+"2", []int64{1, 2})
	// Nothing else is a blank, by bytes or by runes.
	for _, white := range []string{"\t", "\r", "\v", "\f", "\x00", "\x85", "\xa0", "\u0085", "\u00a0", "\u2003", "\u2028", "\u3000", "\ufeff", ",", "_"} {
		wrong(t, "0\n1"+white+"2", 1)
		wrong(t, "0\n1 "+white+" 2", 1)
		wrong(t, "0\n"+white+"1", 1)
		wrong(t, "0\n1"+white, 1)
		wrong(t, white, 0)
		wrong(t, "0\n1"+white+"\n2", 1)
	}
}

// Promise 14.1: numbers of 64 bits, to their bounds.
func TestNumbers(t *testing.T) {
	reads(t, "0 1 -1 9 10 -10 100 1000000007", []int64{0, 1, -1, 9, 10, -10, 100, 1000000007})
	reads(t, "9223372036854775807 -9223372036854775808", []int64{math.MaxInt64, math.MinInt64})
	reads(t, "-9223372036854775807 9223372036854775806", []int64{-math.MaxInt64, math.MaxInt64 - 1})
	for _, word := range []string{
		"9223372036854775808", "-9223372036854775809", "9999999999999999999", "-9999999999999999999",
		"10000000000000000000", "18446744073709551615", "18446744073709551616", "18446744073709551617", "-18446744073709551615",
		"1" + strings.Repeat("0", 100), strings.Repeat("9", 5000),
	} {
		wrong(t, word, 0)
		wrong(t, "1\n 0 "+word+" 0 \n2", 1)
	}
}

// Promise 14.1, and rule P5: decimal digits, no nought ahead, a - at most ahead of them.
func TestNoNumbers(t *testing.T) {
	for _, word := range []string{
		"00", "01", "007", "-01", "-00", "0000000000000000000000000", "00000000000000000000000001",
		// 0 is written 0: a - stands ahead below 0 alone.
		"-0",
		"-", "--", "--1", "1-", "1-2", "1--2", "-1-", "+", "+1", "+0", "-+1", "+-1",
		"a", "1a", "a1", "0x1", "0b1", "0o7", "x1", "1_000", "1,2", "1.0", "1.", ".1", "1e3", "1/2", "(1)", "NaN", "inf", "nil", "#",
		"\x00", "1\x00", "\xff", "1\xff", "\x001", "٣", "１", "−1", "½", "²",
	} {
		wrong(t, word, 0)
		wrong(t, " "+word+" ", 0)
		wrong(t, "1 "+word+"\n", 0)
		wrong(t, word+" 1", 0)
		wrong(t, "1\n\n2 "+word+" 3\n4", 2)
	}
}

// Promise 14.1, and rule P3: of several lines that are wrong the first one is told.
func TestFirstLine(t *testing.T) {
	wrong(t, "x\ny", 0)
	wrong(t, "1\nx\ny", 1)
	wrong(t, "\n\n\n-\n+\n", 3)
	for i := range api.MaxTicks {
		wrong(t, strings.Repeat("1\n", i)+"01", i)
		wrong(t, strings.Repeat("1\n", i)+"01\n", i)
		wrong(t, strings.Repeat("\n", i)+"01\n\n01", i)
	}
}

// Promise 14.1: at most MaxTicks lines, however many numbers they have.
func TestManyLines(t *testing.T) {
	limit := func(s string) {
		t.Helper()
		l, err := Read(s)
		is(t, s, l, err, api.ErrLimit, -1)
	}
	const most = api.MaxTicks
	reads(t, strings.Repeat("\n", most), make([][]int64, most)...)
	reads(t, strings.Repeat("\n", most-1), make([][]int64, most-1)...)
	reads(t, strings.Repeat("\n", most-1)+" ", make([][]int64, most)...)
	reads(t, strings.Repeat("8\n", most-1)+"8", slices.Repeat([][]int64{{8}}, most)...)
	reads(t, strings.Repeat("8\n", most), slices.Repeat([][]int64{{8}}, most)...)
	reads(t, strings.Repeat(" 1", 70000), slices.Repeat([]int64{1}, 70000))

	limit(strings.Repeat("\n", most+1))
	limit(strings.Repeat("8\n", most+1))
	limit(strings.Repeat("8\n", most) + "8")
	limit(strings.Repeat("8\n", most) + " ")
	limit(strings.Repeat("8\n", most) + "\n")
	limit(strings.Repeat("8\n", 100000))
	// What comes first from the beginning: a wrong line ahead of the one too many,
	// or that one, whatever stands behind it.
	wrong(t, strings.Repeat("8\n", most-1)+"x\n8\n", most-1)
	wrong(t, "x\n"+strings.Repeat("8\n", most+5), 0)
	for _, well := range []string{"", " ", "8", " 8  -9 ", "0 9223372036854775807"} {
		limit(strings.Repeat("8\n", most) + well + "\n")
		limit(strings.Repeat("8\n", most) + well + "\nx")
		limit(strings.Repeat("\n", most) + well + "\n+1\n8\n")
	}
}

// Promise 14.1, and rule P3: of a line that is none, and is one too many, ErrForm is told,
// which the document tells first.
func TestLineTooMany(t *testing.T) {
	const most = api.MaxTicks
	for _, word := range []string{"x", "+1", "01", "-0", "-", "1\t", "\r", "9223372036854775808", "-9223372036854775809", "\x00", "٣"} {
		for _, well := range []string{"\n", " \n", "8\n", "1 -2 3\n"} {
			ahead := strings.Repeat(well, most)
			wrong(t, ahead+word, most)
			wrong(t, ahead+word+"\n", most)
			wrong(t, ahead+" "+word+" ", most)
			wrong(t, ahead+"8 "+word+"\n8\n", most)
			wrong(t, ahead+word+" 8\nx\n", most)
		}
		// A line ahead of it that is none is told first.
		wrong(t, strings.Repeat("8\n", most-1)+word+"\n"+word, most-1)
		wrong(t, "x\n"+strings.Repeat("8\n", most-1)+word, 0)
	}
}

// Promise 14.1: each a line, with one blank between.
func TestPrint(t *testing.T) {
	for _, c := range []struct {
		l    [][]int64
		want string
	}{
		{nil, ""},
		{[][]int64{}, ""},
		{[][]int64{nil}, "\n"},
		{[][]int64{{}}, "\n"},
		{[][]int64{{}, nil}, "\n\n"},
		{[][]int64{{7}}, "7\n"},
		{[][]int64{{0, -1}}, "0 -1\n"},
		{[][]int64{{1, 2}, {}, {3}, {-4, 5, 60}}, "1 2\n\n3\n-4 5 60\n"},
		{[][]int64{{math.MinInt64, math.MaxInt64}}, "-9223372036854775808 9223372036854775807\n"},
		{slices.Repeat([][]int64{{1}}, api.MaxTicks+40), strings.Repeat("1\n", api.MaxTicks+40)},
	} {
		if got := Print(c.l); got != c.want {
			t.Errorf("%.200s: %.200q; want %.200q", fmt.Sprint(c.l), got, c.want)
		}
	}
}

// counter is code: place 0 is told, 1 is kept, the sum of what was told, from -10 on; 2
// tells it negated, and is 5 at first.
func counter() api.Net {
	return api.Net{
		Places: 3, First: []int64{0, -10, 5},
		Ins: []int{0}, Outs: []int{1, 2}, Keeps: []int{1},
		Code: []api.Step{{Code: api.Add, Dst: 1, A: 1}, {Code: api.Neg, Dst: 2, A: 1}},
	}
}

// Promise 14.1: what a new Machine tells, tick by tick.
func TestCode(t *testing.T) {
	ask := func(n api.Net, ins [][]int64, want ...[]int64) {
		t.Helper()
		outs, err := Code(n, ins)
		is(t, fmt.Sprint(n), outs, err, api.OK, -1)
		if !same(outs, want) {
			t.Errorf("%v, told %v: %v; want %v", n, ins, outs, want)
		}
	}
	n := counter()
	for range 2 { // a new one each time
		ask(n, [][]int64{{4}, {7, 99}, nil, {-1}, {}}, []int64{-6, 6}, []int64{1, -1}, []int64{1, -1}, []int64{0, 0}, []int64{0, 0})
	}
	ask(n, nil)
	ask(n, [][]int64{})
	ask(n, [][]int64{nil}, []int64{-10, 10})
	ask(api.Net{}, [][]int64{{1}, nil}, nil, nil)
	n.Code = nil
	ask(n, [][]int64{nil, nil}, []int64{-10, 5}, []int64{-10, 0})
}

// Promise 14.1: there may be more ticks than a text has.
func TestManyTicks(t *testing.T) {
	ins := slices.Repeat([][]int64{{1}}, 10*api.MaxTicks)
	outs, err := Code(counter(), ins)
	if err != nil || len(outs) != len(ins) || !slices.Equal(outs[len(outs)-1], []int64{590, -590}) {
		t.Errorf("%d ticks: %.300s, %v", len(outs), fmt.Sprint(outs), err)
	}
	outs, err = Chart(drawn(t, lamp), ins)
	// It is lit in the second tick, and counts from the third one on.
	if err != nil || len(outs) != len(ins) || !slices.Equal(outs[len(outs)-1], []int64{1, 598}) {
		t.Errorf("%d ticks: %.300s, %v", len(outs), fmt.Sprint(outs), err)
	}
}

// Promise 14.1: Check's errors (6.1), with their At, whatever is told.
func TestWrongCode(t *testing.T) {
	with := func(spoil func(n *api.Net)) api.Net {
		n := counter()
		spoil(&n)
		return n
	}
	for _, c := range []struct {
		n     api.Net
		err   api.Errno
		place int
	}{
		{api.Net{Places: -1}, api.ErrLimit, -1},
		{api.Net{Places: api.MaxCode + 1, First: make([]int64, api.MaxCode+1)}, api.ErrLimit, -1},
		{with(func(n *api.Net) { n.Nums = make([]int64, api.MaxCode+1) }), api.ErrLimit, -1},
		{with(func(n *api.Net) { n.Code = make([]api.Step, api.MaxCode+1) }), api.ErrLimit, -1},
		{with(func(n *api.Net) { n.First = n.First[1:] }), api.ErrForm, -1},
		{with(func(n *api.Net) { n.Outs = []int{3} }), api.ErrRange, -1},
		{with(func(n *api.Net) { n.Keeps = []int{-1} }), api.ErrRange, -1},
		{with(func(n *api.Net) { n.Ins = []int{1, 1} }), api.ErrTwice, -1},
		{with(func(n *api.Net) { n.Code[0].Code = api.Pre }), api.ErrForm, 0},
		{with(func(n *api.Net) { n.Code[1].Code = 0 }), api.ErrForm, 1},
		{with(func(n *api.Net) { n.Code[1].Dst = 3 }), api.ErrRange, 1},
		{with(func(n *api.Net) { n.Code[1].Code = api.Num }), api.ErrRange, 1},
		{with(func(n *api.Net) { n.Code[1].C = 1 }), api.ErrArg, 1},
	} {
		for _, ins := range [][][]int64{nil, {nil}, {{1}, {2, 3}}} {
			outs, err := Code(c.n, ins)
			is(t, fmt.Sprint(c.n), outs, err, c.err, c.place)
		}
	}
}

// lamp is a chart that tells whether it is lit, and for how long.
const lamp = `chart lamp { input b; output on; output long; input c;
	region { initial state dark { entry on := 0; go if b --> lit; } state lit { entry on := 1; during long := long + 1; go if count 2 !b --> dark; abort if c do long := -c --> dark; } } }`

// drawn is a text's chart.
func drawn(t *testing.T, text string) api.Chart {
	t.Helper()
	c, err := parse.Parse(text)
	if err != nil {
		t.Fatalf("%s: %v", text, err)
	}
	return c
}

// Promise 14.1: what a new Runner tells, tick by tick.
func TestChart(t *testing.T) {
	ask := func(c api.Chart, ins [][]int64, want ...[]int64) {
		t.Helper()
		outs, err := Chart(c, ins)
		is(t, parse.Print(c), outs, err, api.OK, -1)
		if !same(outs, want) {
			t.Errorf("%s, told %v: %v; want %v", parse.Print(c), ins, outs, want)
		}
	}
	c := drawn(t, lamp)
	for range 2 { // a new one each time
		ask(c, [][]int64{nil, {1}, {1}, {}, nil, {1, 0, 9}, {1, 4}}, []int64{0, 0}, []int64{1, 0}, []int64{1, 1}, []int64{1, 2}, []int64{0, 3}, []int64{1, 3}, []int64{0, -4})
	}
	ask(c, nil)
	ask(c, [][]int64{})
	// The document's example.
	count := drawn(t, `chart c { output b; region { initial state s { during b := b + 1; } } }`)
	ask(count, [][]int64{nil, {5}, nil, {}}, []int64{0}, []int64{1}, []int64{2}, []int64{3})
	ask(drawn(t, `chart c { input a; region { initial state s; } }`), [][]int64{{1}, nil}, nil, nil)
}

// Promise 14.1: Check's errors (4.2), with their At, whatever is told.
func TestWrongChart(t *testing.T) {
	in := func(s string) string { return "chart c { input a; output x; region { " + s + " } }" }
	for _, c := range []struct {
		text  string
		err   api.Errno
		place int
	}{
		{"chart c { }", api.ErrNone, -1},
		{"chart c { var v; var w; var v; region { initial state s; } }", api.ErrTwice, 2},
		{in(""), api.ErrNone, 0},
		{in("state s;"), api.ErrNone, 0},
		{in("initial state s; initial state t;"), api.ErrFull, 0},
		{in("initial state s; state t; state s;"), api.ErrTwice, 2},
		{in("initial state s; final state t { go --> s; }"), api.ErrState, 1},
		{in("initial state s; state t { go --> u; }"), api.ErrMissing, 1},
		{in("initial state s { during x := y; }"), api.ErrName, 0},
		{in("initial state s { during a := x; }"), api.ErrArg, 0},
		{in("initial state s { go immediate --> t; } state t { go immediate --> s; }"), api.ErrCycle, 0},
	} {
		for _, ins := range [][][]int64{nil, {nil}, {{1}, {2, 3}}} {
			outs, err := Chart(drawn(t, c.text), ins)
			is(t, c.text, outs, err, c.err, c.place)
		}
	}
}

// Promise 14.1, and what is to be true of the whole: the code does what the chart does.
func TestBoth(t *testing.T) {
	c := drawn(t, lamp)
	n, err := emit.Emit(c)
	if err != nil {
		t.Fatal(err)
	}
	ins, err := Read("\n1\n 1 0\n\n0 0 3\n1\n1 -9223372036854775808\n")
	if err != nil {
		t.Fatal(err)
	}
	outs, err := Code(n, ins)
	want, wrong := Chart(c, ins)
	if err != nil || wrong != nil || Print(outs) != Print(want) || Print(outs) != "0 0\n1 0\n1 1\n1 2\n0 3\n1 3\n0 -9223372036854775808\n" {
		t.Errorf("%q, %v; %q, %v", Print(outs), err, Print(want), wrong)
	}
}

// answers are all lists of ticks that Read, Code and Chart tell of these.
func answers(t *testing.T, n api.Net, c api.Chart, ins [][]int64) [][]int64 {
	t.Helper()
	read, err := Read("1\n2 3\n\n4 -5 6\n")
	if err != nil {
		t.Fatal(err)
	}
	code, err := Code(n, ins)
	if err != nil {
		t.Fatal(err)
	}
	chart, err := Chart(c, ins)
	if err != nil {
		t.Fatal(err)
	}
	return slices.Concat(read, code, chart)
}

// fill writes a number of its own into each list, to the end of what stands behind it.
func fill(lists [][]int64) {
	for i, l := range lists {
		l = l[:cap(l)]
		for k := range l {
			l[k] = int64(1000 + i)
		}
	}
}

// Rule P4: nothing that is handed in is written into, nor what stands behind a list's
// length; what comes out is fresh, each list of its own.
func TestMemory(t *testing.T) {
	n, c := counter(), drawn(t, lamp)
	whole := [][]int64{{1, 0, 77, 78}, {0, 5, 79}, {88}, {99}}
	ins := [][]int64{whole[0][:1], whole[1][:0], whole[2], whole[3]}
	shown := func() string { return fmt.Sprint(n, parse.Print(c), whole, ins) }
	before := shown()
	lists := answers(t, n, c, ins[:3])
	Print(ins[:3])
	told := fmt.Sprint(lists)
	lists = append(lists, answers(t, n, c, ins[:3])...)
	if got := shown(); got != before {
		t.Errorf("%s became %s", before, got)
	}
	fill(lists)
	for i, l := range lists {
		if slices.ContainsFunc(l, func(n int64) bool { return n != int64(1000+i) }) {
			t.Errorf("the list at %d shares memory: %v", i, l)
		}
	}
	if got := shown(); got != before {
		t.Errorf("%s became %s behind what was told", before, got)
	}
	if again := fmt.Sprint(answers(t, n, c, ins[:3])); again != told {
		t.Errorf("%s; then %s", told, again)
	}
}

// Rule P1: charts and code that no text draws are told something of, too.
func TestAnything(t *testing.T) {
	odd := &api.Expr{Code: 99, Left: &api.Expr{Code: api.Add}, Name: "x"}
	for _, expr := range []*api.Expr{nil, odd, {Code: -1}, {Code: api.Div}, {Code: api.Neg}} {
		c := api.Chart{
			Vars: []api.Declared{{Kind: api.Out, Name: "x"}, {Kind: 77, Name: ""}},
			Regions: [][]api.State{{
				{Name: "s", First: true, Enter: []api.Set{{Name: "x", Expr: expr}}, Rests: expr, Ways: []api.Way{{Kind: 9, When: expr, Times: -4, To: "s"}, {To: "s"}}},
			}},
		}
		outs, err := Chart(c, [][]int64{nil, {1}, {2, 3}})
		_, want := run.New(c)
		e, place := plain.Place(want)
		is(t, fmt.Sprint(c), outs, err, e, place)
		if err == nil && len(outs) != 3 {
			t.Errorf("%v: %v", c, outs)
		}
	}
	outs, err := Chart(api.Chart{}, [][]int64{nil})
	e, place := plain.Place(check.Check(api.Chart{}))
	is(t, "no chart", outs, err, e, place)
	n := api.Net{Code: []api.Step{{Code: math.MaxInt, Dst: math.MinInt}}}
	outs, err = Code(n, [][]int64{nil})
	e, place = plain.Place(net.Check(n))
	is(t, "no code", outs, err, e, place)
	if !reflect.DeepEqual(n, api.Net{Code: []api.Step{{Code: math.MaxInt, Dst: math.MinInt}}}) {
		t.Errorf("it became %v", n)
	}
}
