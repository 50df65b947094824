package run

import (
	"errors"
	"fmt"
	"reflect"
	"slices"
	"strings"
	"testing"

	"clepsydra/api"
	"clepsydra/check"
	"clepsydra/parse"
)

// draw is what a text draws, which must be something.
func draw(t *testing.T, s string) api.Chart {
	t.Helper()
	c, err := parse.Parse(s)
	if err != nil {
		t.Fatalf("%q draws nothing: %v", s, err)
	}
	return c
}

// start is a Runner of a text's chart, which may be.
func start(t *testing.T, s string) *Runner {
	t.Helper()
	r, err := New(draw(t, s))
	if err != nil || r == nil {
		t.Fatalf("%q does not run: %v", s, err)
	}
	return r
}

// vars are those of the charts below. Of what is done, t tells which and in
// which order: each marks its digit there, and the tick's end is seen by what
// stands in t then.
const vars = "input a; input b; output t; output x; var v; "

// in is a chart of one region with those variables.
func in(region string) string { return "chart c { " + vars + "region { " + region + " } }" }

// logged writes each mark of a text, as !5, as the set that logs it.
func logged(s string) string {
	for i := 1; i <= 9; i++ {
		s = strings.ReplaceAll(s, fmt.Sprint("!", i), fmt.Sprint("t := t * 10 + ", i))
	}
	return s
}

// runs fails the test unless a chart whose t is set back to 0 ahead of each
// tick tells these: a tick is "1 2: 35 s p" (what is told, what is logged, what
// is there).
func runs(t *testing.T, region string, ticks ...string) {
	t.Helper()
	r := start(t, in(logged(region)))
	for i, tick := range ticks {
		told, want, ok := strings.Cut(tick, ": ")
		if !ok {
			t.Fatalf("no tick: %q", tick)
		}
		r.now["t"] = 0
		out := r.Tick(numbers(t, told))
		got := strings.Join(append([]string{fmt.Sprint(out[0])}, r.There()...), " ")
		if got != want {
			t.Errorf("%s: tick %d (%s): %q; want %q", region, i, told, got, want)
		}
	}
}

// numbers are those of a text.
func numbers(t *testing.T, s string) []int64 {
	t.Helper()
	var l []int64
	for _, f := range strings.Fields(s) {
		var n int64
		if _, err := fmt.Sscan(f, &n); err != nil {
			t.Fatal(err)
		}
		l = append(l, n)
	}
	return l
}

// is fails the test unless two lists are the same; an empty one may be nil.
func is[T comparable](t *testing.T, what string, got, want []T) {
	t.Helper()
	if !slices.Equal(got, want) {
		t.Errorf("%s: %v; want %v", what, got, want)
	}
}

// The document's example.
func TestExample(t *testing.T) {
	r := start(t, "chart c { output b; region { initial state s { during b := b + 1; } } }")
	for i := range int64(20) {
		is(t, "tick", r.Tick(nil), []int64{i})
		is(t, "there", r.There(), []string{"s"})
	}
}

// Promise 5.1: New tells Check's errors, with their places, and no Runner.
func TestWrongChart(t *testing.T) {
	for _, s := range []string{
		"chart c { }",
		"chart c { var a; var b; var a; region { initial state s; } }",
		"chart c { region { } }",
		"chart c { region { state s; } }",
		"chart c { region { initial state s; initial state p; } }",
		in("initial state s; state s;"),
		in("initial state s; final state p { go --> s; }"),
		in("initial state s { entry z := 1; }"),
		in("initial state s; state p { during a := 1; }"),
		in("initial state s { go --> p; }"),
		in("initial state s { join --> s; }"),
		in("initial state s { go immediate --> s; }"),
		in("initial state s { region { initial state p; } region { initial state p; state q { suspend pre(z); } } }"),
	} {
		c := draw(t, s)
		want := check.Check(c)
		r, err := New(c)
		if r != nil || want == nil || !reflect.DeepEqual(err, want) {
			t.Errorf("%s: %v, %v; want no Runner, and %v", s, r, err, want)
		}
		var at *api.At
		if (s != "chart c { }") != errors.As(err, &at) {
			t.Errorf("%s: an At is missing, or is there", s)
		}
	}
	if r, err := New(api.Chart{}); r != nil || err != error(api.ErrNone) {
		t.Errorf("of no chart: %v, %v", r, err)
	}
}

// Promise 5.1: ahead of the first tick all variables are First, and nothing is
// there.
func TestAheadOfTheFirstTick(t *testing.T) {
	r := start(t, "chart c { output x := 4; input a := -3; var v; output y := 999999999999999999; region { initial state s; } }")
	is(t, "vars", r.Vars(), []int64{4, -3, 0, 999999999999999999})
	is(t, "there", r.There(), nil)
	is(t, "tick", r.Tick(nil), []int64{4, 999999999999999999})
	is(t, "vars", r.Vars(), []int64{4, 0, 0, 999999999999999999})
	is(t, "there", r.There(), []string{"s"})
}

// Promise 5.1: all In are what is told, in the order of Vars; what is missing
// is 0 (not First, nor what it was), what is too much is nothing.
func TestIns(t *testing.T) {
	r := start(t, "chart c { input a := 7; output x := 1; input b := 8; var v := 2; input e := 9; region { initial state s; } }")
	for _, c := range []struct{ ins, vars []int64 }{
		{[]int64{5}, []int64{5, 1, 0, 2, 0}},
		{[]int64{1, 2, 3}, []int64{1, 1, 2, 2, 3}},
		{nil, []int64{0, 1, 0, 2, 0}},
		{[]int64{-1, 0, -9, 100, 200}, []int64{-1, 1, 0, 2, -9}},
		{[]int64{}, []int64{0, 1, 0, 2, 0}},
		{[]int64{0, 4}, []int64{0, 1, 4, 2, 0}},
	} {
		is(t, "tick", r.Tick(c.ins), []int64{1})
		is(t, "vars", r.Vars(), c.vars)
	}
}

// Promise 5.1: all Out are told, in the order of Vars, and no others.
func TestOuts(t *testing.T) {
	r := start(t, "chart c { output y; var v := 5; output x; input a; output z; region { initial state s { entry x := 2, y := 1, z := a; during z := z + 1, v := 6; } } }")
	is(t, "tick", r.Tick([]int64{3}), []int64{1, 2, 3})
	is(t, "tick", r.Tick([]int64{3}), []int64{1, 2, 4})
	is(t, "vars", r.Vars(), []int64{1, 6, 2, 3, 4})
	r = start(t, "chart c { var v; region { initial state s; } }")
	is(t, "none", r.Tick([]int64{1}), nil)
	is(t, "vars", r.Vars(), []int64{0})
	r = start(t, "chart c { region { initial state s; } }")
	is(t, "none", r.Tick([]int64{1}), nil)
	is(t, "no vars", r.Vars(), nil)
}

// Promise 5.1: Pre tells what a variable was at the last tick's end, First
// ahead of it; of an In, too, and whatever is set in the tick.
func TestPre(t *testing.T) {
	r := start(t, "chart c { input a := 7; output p; output q; output x := 3; region { initial state s { entry x := x + 1, p := pre(a), q := pre(x); during x := x + 1, x := x + 1, p := pre(a), q := pre(x), x := x + 1; } } }")
	is(t, "tick", r.Tick([]int64{1}), []int64{7, 3, 4})
	is(t, "tick", r.Tick([]int64{2}), []int64{1, 4, 7})
	is(t, "tick", r.Tick(nil), []int64{2, 7, 10})
	is(t, "tick", r.Tick([]int64{9}), []int64{0, 10, 13})
}

// Promise 5.1: what variables were is told of the tick's end, not of where it
// is told: a later region sees the old ones, too.
func TestPreOfOtherRegion(t *testing.T) {
	r := start(t, "chart c { output x := 1; output p; region { initial state s { entry x := 2; during x := x * 2; } } region { initial state s { entry p := pre(x); during p := pre(x); } } }")
	is(t, "tick", r.Tick(nil), []int64{2, 1})
	is(t, "tick", r.Tick(nil), []int64{4, 2})
	is(t, "tick", r.Tick(nil), []int64{8, 4})
}

// Promise 5.1: sets are done one by one, each with what variables are then.
func TestSetsOneByOne(t *testing.T) {
	r := start(t, "chart c { output x := 1; output y := 2; region { initial state s { during x := y, y := x; during y := y + x, x := x + y; } } }")
	is(t, "tick", r.Tick(nil), []int64{1, 2})
	is(t, "tick", r.Tick(nil), []int64{6, 4})
	is(t, "tick", r.Tick(nil), []int64{12, 8})
}

// Promise 5.1: region by region: the second one sees what the first one did.
func TestRegionByRegion(t *testing.T) {
	s := logged("chart c { " + vars + "region { initial state p { entry !1; during !2; go if a --> q; } state q { entry !3; } }" +
		"region { initial state p { entry !4; during !5; go if t == 235 --> q; } state q { entry !6; } } region { initial state r { entry !7; during !8; } } }")
	r := start(t, s)
	for i, c := range []struct {
		a, t  int64
		there []string
	}{
		{1, 147, []string{"p", "p", "r"}}, {0, 258, []string{"p", "p", "r"}}, {1, 23568, []string{"q", "q", "r"}}, {1, 8, []string{"q", "q", "r"}},
	} {
		r.now["t"] = 0
		is(t, fmt.Sprint("tick ", i), r.Tick([]int64{c.a})[:1], []int64{c.t})
		is(t, fmt.Sprint("there ", i), r.There(), c.there)
	}
}

// Promise 5.1: what is there is told each ahead of those inside, region by
// region.
func TestThere(t *testing.T) {
	r := start(t, "chart c { input a; region { initial state p { region { state q; initial state r { region { initial state s; } region { initial state s; } go if a --> q; } } region { initial state u; } } }"+
		"region { state p; initial state q { go --> p; } } }")
	is(t, "there", r.There(), nil)
	r.Tick(nil)
	is(t, "there", r.There(), []string{"p", "r", "s", "s", "u", "q"})
	r.Tick(nil)
	is(t, "there", r.There(), []string{"p", "r", "s", "s", "u", "p"})
	r.Tick([]int64{1})
	is(t, "there", r.There(), []string{"p", "q", "u", "p"})
}

// P4: what is handed in stays as it is, and is not kept; what comes out is the
// caller's.
func TestMemory(t *testing.T) {
	s := in("initial state s { during x := x + a; go if count 2 b --> p; region { initial state q { go --> r; } state r; } } state p { go --> s history; }")
	c, same := draw(t, s), draw(t, s)
	r, err := New(c)
	if err != nil {
		t.Fatal(err)
	}
	other, _ := New(c)
	ins := []int64{3, 1, 77, 78}
	for i := range 6 {
		out := r.Tick(ins[:2])
		is(t, "ins", ins, []int64{3, 1, 77, 78})
		vars, there := r.Vars(), r.There()
		kept := slices.Clone(vars)
		for _, l := range [][]int64{out[:cap(out)], vars[:cap(vars)]} {
			for j := range l {
				l[j] = -1
			}
		}
		for j := range there {
			there[j] = "spoilt"
		}
		is(t, "vars", r.Vars(), kept)
		if slices.Contains(r.There(), "spoilt") {
			t.Error("There tells what was written into its list")
		}
		again := slices.Clone(ins[:2])
		other.Tick(again)
		again[0], again[1] = -5, -5
		is(t, fmt.Sprint("the other one, tick ", i), other.Vars(), kept)
		is(t, "there", other.There(), r.There())
	}
	if !reflect.DeepEqual(c, same) {
		t.Error("the chart is another one behind the ticks")
	}
}

// Runners of one chart have nothing in common.
func TestTwoRunners(t *testing.T) {
	c := draw(t, in("initial state s { during x := x + 1; go if count 2 a --> p; } state p { go if b --> s history; }"))
	one, _ := New(c)
	two, _ := New(c)
	for range 5 {
		one.Tick([]int64{1, 1})
	}
	is(t, "vars", two.Vars(), []int64{0, 0, 0, 0, 0})
	is(t, "there", two.There(), nil)
	fresh, _ := New(c)
	for _, l := range [][]int64{{1, 0}, {1}, {0}, {1, 1}, {0, 1}, {1}, {1}} {
		is(t, "tick", two.Tick(l), fresh.Tick(l))
		is(t, "there", two.There(), fresh.There())
	}
}

// P1: what New did not make is not promised; it is quiet all the same.
func TestNoRunner(t *testing.T) {
	for _, r := range []*Runner{nil, {}} {
		is(t, "tick", r.Tick([]int64{1}), nil)
		is(t, "vars", r.Vars(), nil)
		is(t, "there", r.There(), nil)
	}
}

// P1: what Parse would not tell runs, too: kinds and codes that are none,
// counts below 1, or of nothing, an expression with nothing in it.
func TestStrangeChart(t *testing.T) {
	one := &api.Expr{Code: api.Num, Num: 1}
	c := api.Chart{
		Vars: []api.Declared{{Kind: 9, Name: "x"}, {Kind: -1, Name: "", First: 5}, {Kind: api.Out, Name: "o"}},
		Regions: [][]api.State{{
			{Name: "", First: true, Enter: []api.Set{{Name: "x"}, {Name: "", Expr: &api.Expr{Code: api.Add, Left: one}}}, Ways: []api.Way{{Kind: 77, Times: 3, To: "p"}}},
			{Name: "p", Rests: &api.Expr{}, During: []api.Set{{Name: "o", Expr: &api.Expr{Code: api.Pick, Left: one, Right: one}}}, Ways: []api.Way{{Kind: -2, Times: -4, To: ""}}},
		}},
	}
	r, err := New(c)
	if err != nil {
		t.Fatal(err)
	}
	for i, want := range []string{"", "", "", "p", "", "", "", "p"} {
		is(t, "tick", r.Tick([]int64{8}), []int64{0})
		is(t, fmt.Sprint("there ", i), r.There(), []string{want})
		is(t, "vars", r.Vars(), []int64{0, 1, 0})
	}
}

// Limits: as many parts in one another as there may be.
func TestDeep(t *testing.T) {
	const deep = 1<<15 - 2
	s := api.State{Name: "s", First: true, During: []api.Set{{Name: "x", Expr: &api.Expr{Code: api.Add, Left: &api.Expr{Code: api.Var, Name: "x"}, Right: &api.Expr{Code: api.Num, Num: 1}}}}}
	for range deep {
		s.Regions = [][]api.State{{s}}
	}
	s.Ways = []api.Way{{When: &api.Expr{Code: api.Var, Name: "a"}, To: "s", Times: 1, Back: true}}
	r, err := New(api.Chart{Vars: []api.Declared{{Kind: api.In, Name: "a"}, {Kind: api.Out, Name: "x"}}, Regions: [][]api.State{{s}}})
	if err != nil {
		t.Fatal(err)
	}
	for i := range int64(3) {
		is(t, "tick", r.Tick([]int64{i}), []int64{i * (deep + 1)})
		if n := len(r.There()); n != deep+1 {
			t.Errorf("%d states are there; want %d", n, deep+1)
		}
	}
}

// A long way round at once, in one tick.
func TestLongChain(t *testing.T) {
	const many = 10000
	add := []api.Set{{Name: "x", Expr: &api.Expr{Code: api.Add, Left: &api.Expr{Code: api.Var, Name: "x"}, Right: &api.Expr{Code: api.Num, Num: 1}}}}
	var l []api.State
	for i := range many {
		s := api.State{Name: fmt.Sprint("s", i), First: i == 0, Enter: add}
		s.Ways = []api.Way{{Kind: i % 2, Now: i < many-1, Times: 1, To: fmt.Sprint("s", (i+1)%many)}}
		l = append(l, s)
	}
	r, err := New(api.Chart{Vars: []api.Declared{{Kind: api.Out, Name: "x"}}, Regions: [][]api.State{l}})
	if err != nil {
		t.Fatal(err)
	}
	for i := range int64(3) {
		is(t, "tick", r.Tick(nil), []int64{(i + 1) * many})
		is(t, "there", r.There(), []string{fmt.Sprint("s", many-1)})
	}
}
