package check

import (
	"errors"
	"math"
	"reflect"
	"strings"
	"testing"

	"clepsydra/api"
	"clepsydra/lex"
	"clepsydra/parse"
)

// draw is what a text draws, which must be something.
func draw(t *testing.T, s string) api.Chart {
	t.Helper()
	c, err := parse.Parse(s)
	if err != nil {
		t.Fatalf("%q draws nothing: %v", s, err)
	}
	return c
}

// right fails the test unless a text's chart may be.
func right(t *testing.T, s string) {
	t.Helper()
	if err := Check(draw(t, s)); err != nil {
		t.Errorf("%q: %v at %d; want none", s, err, placeOf(err))
	}
}

// placeOf is an error's place; -1, if it has none.
func placeOf(err error) int {
	var at *api.At
	if errors.As(err, &at) {
		return at.Place
	}
	return -1
}

// is fails the test unless an error is that one; place -1: it has no At.
func is(t *testing.T, what string, err error, want api.Errno, place int) {
	t.Helper()
	if api.Tell(err) != want || placeOf(err) != place {
		t.Errorf("%s: error %d at %d; want error %d at %d", what, api.Tell(err), placeOf(err), want, place)
	}
	var at *api.At
	if errors.As(err, &at) && at.Err != want {
		t.Errorf("%s: error %d in the At; want %d", what, at.Err, want)
	}
}

// wrong fails the test unless a text's chart is told to be so, at the state
// that stands behind the @, or would stand there.
func wrong(t *testing.T, s string, want api.Errno) {
	t.Helper()
	ahead, behind, ok := strings.Cut(s, "@")
	if !ok || strings.Contains(behind, "@") {
		t.Fatalf("no mark, or several, in %q", s)
	}
	tokens, err := lex.Split(ahead)
	if err != nil {
		t.Fatal(err)
	}
	place := 0
	for _, k := range tokens {
		if k.Text == "state" {
			place++
		}
	}
	is(t, s, Check(draw(t, ahead+behind)), want, place)
}

// vars are those of the charts below: two In, two Out, one Own.
const vars = "input a; input b; output x; output y := 1; var v := -2; "

// in is a chart of one region with those variables.
func in(region string) string { return "chart c { " + vars + "region { " + region + " } }" }

// one is such a chart, of one state that has these parts.
func one(parts string) string { return in("initial @state s { " + parts + " }") }

// Promise 4.2: charts that may be.
func TestRight(t *testing.T) {
	right(t, "chart c { region { initial state s; } }")
	right(t, "chart c { output b; region { initial state s { during b := b + 1; } } }")
	right(t, "chart c { region { initial state s; } input a; var b; }")
	right(t, "chart s { var s; region { initial state s { entry s := s; } } }")
	right(t, in("state p; state q; initial state r;"))
	right(t, in("initial final state s;"))
	right(t, in("initial final state s { entry x := a; during y := 1; exit v := pre(b); suspend a; }"))
	right(t, in("initial state s { suspend a || !pre(b) && x < y + -v; }"))
	right(t, in("initial state s { during x := a, y := x, v := pre(x), x := v; }"))
	right(t, in("initial state s; final state p; final state q;"))
	right(t, in("initial state s { go --> s; abort if a --> s; go if count 1000 a --> s history; }"))
	right(t, in("initial state s { go immediate if count 1 a do x := 1 --> p; } state p { go --> s; }"))
	right(t, in("initial state s { region { initial state s; } region { initial state s { region { initial state s; } } } }"))
	right(t, in("initial state s { join --> p; join immediate if a --> p; join if count 2 b --> p; region { initial state q; } } state p;"))
	right(t, "chart c { region { initial state s; } region { initial state s { go --> s; } state p; } region { state p; initial state s; } }")
}

// Promise 4.2: the second one of two variables of one name.
func TestVarsTwice(t *testing.T) {
	for _, c := range []struct {
		vars  string
		place int
	}{
		{"var a; var a;", 1},
		{"var a := 1; input a; ", 1},
		{"input a; output a;", 1},
		{"output a; output b; output a;", 2},
		{"var a; var b; var b; var a;", 2},
		{"var a; var b; var a; var b;", 2},
		{"var a; var a; var a;", 1},
		{"var a; var b; var c; var d; var b; var a;", 4},
		{"var A; var a; var a_; var a0; var a00; var a0;", 5},
	} {
		for _, rest := range []string{
			"", "region { }", "region { initial state s; }", "region { initial state s; state s; }",
			"region { initial state s { entry z := 1; go --> s1; } }",
		} {
			s := "chart c { " + c.vars + rest + " }"
			is(t, s, Check(draw(t, s)), api.ErrTwice, c.place)
			s = "chart c { " + rest + c.vars + " }"
			is(t, s, Check(draw(t, s)), api.ErrTwice, c.place)
		}
	}
}

// Promise 4.2: a chart without a region; nothing of it has a place.
func TestNoRegion(t *testing.T) {
	for _, s := range []string{"chart c { }", "chart c { input a; }", "chart c { " + vars + "}"} {
		is(t, s, Check(draw(t, s)), api.ErrNone, -1)
	}
	is(t, "empty list", Check(api.Chart{Regions: [][]api.State{}}), api.ErrNone, -1)
}

// Promise 4.2: states of one name.
func TestStatesTwice(t *testing.T) {
	wrong(t, in("initial state s; @state s;"), api.ErrTwice)
	wrong(t, in("initial state s; @state s; state s;"), api.ErrTwice)
	wrong(t, in("initial state p; state q; state r; @state q; state p;"), api.ErrTwice)
	wrong(t, in("initial state p; state q; @state q; state p;"), api.ErrTwice)
	wrong(t, in("initial state s { region { initial state s; @state s; } }"), api.ErrTwice)
	wrong(t, in("initial state p { region { initial state q; } region { initial state p; } } state q; @state p;"), api.ErrTwice)
	wrong(t, "chart c { region { initial state s; } region { initial state s; @state s; } }", api.ErrTwice)
}

// Promise 4.2: a Last state has neither ways nor regions.
func TestLast(t *testing.T) {
	wrong(t, in("initial state s; @final state p { go --> s; }"), api.ErrState)
	wrong(t, in("initial state s; @final state p { region { initial state s; } }"), api.ErrState)
	wrong(t, in("initial state s; @final state p { region { } }"), api.ErrState)
	wrong(t, in("@initial final state s { abort --> s; region { initial state p; } }"), api.ErrState)
	wrong(t, in("initial state s { region { initial state p; @final state q { go --> p; } } }"), api.ErrState)
}

// Promise 4.2: what is set when it is entered, in each tick, when it is left,
// and of a way: each is asked alike.
func TestSets(t *testing.T) {
	for _, form := range []string{"entry $;", "during $;", "exit $;", "go do $ --> s;", "abort if a do $ --> s history;"} {
		sets := func(s string) string { return one(strings.Replace(form, "$", s, 1)) }
		for _, s := range []string{"x := 1", "y := a", "v := v", "x := 1, y := 2, v := 3", "x := pre(a) + -b * !v"} {
			right(t, strings.Replace(sets(s), "@", "", 1))
		}
		for _, s := range []string{
			"z := 1", "z := z", "z := a", "x := z", "x := pre(z)", "x := -z", "x := !pre(z)", "x := 1 + z", "x := z + 1",
			"x := 0 && z", "x := 1 || z", "x := 0 * z", "x := a / z", "x := z % a", "x := z == 1", "x := a != z", "x := z < a",
			"x := a <= z", "x := a - (b - (v - (y - !-pre(z))))", "x := s", "s := 1", "c := 1", "X := 1", "x := xx", "x := pre(c)",
			"x := 1, z := 1", "x := 1, y := z", "x := 1, y := 2, v := 1, x := pre(z)",
			"a := z", "b := a + pre(z)", "z := 1, a := 1", "x := z, a := 1", "a := z, x := 1",
		} {
			wrong(t, sets(s), api.ErrName)
		}
		for _, s := range []string{"a := 1", "b := a", "b := b", "x := 1, a := x", "a := 1, z := 1", "a := 1, x := z", "y := 1, b := 1, a := z"} {
			wrong(t, sets(s), api.ErrArg)
		}
	}
}

// Promise 4.2: wherever a variable stands, an In alone may not be set.
func TestSetsByKind(t *testing.T) {
	for _, ahead := range []string{"", "input e; ", "var e; output f; ", "output e; input f; var g; "} {
		for _, word := range []string{"input", "output", "var"} {
			s := "chart c { " + ahead + word + " q; input n; output m; region { initial @state s { during q := 1; } } }"
			if word == "input" {
				wrong(t, s, api.ErrArg)
				continue
			}
			right(t, strings.Replace(s, "@", "", 1))
		}
	}
}

// Promise 4.2: when a state rests.
func TestRests(t *testing.T) {
	for _, e := range []string{"z", "pre(z)", "!z", "-(a + z)", "a && z", "s", "c", "z || a"} {
		wrong(t, one("suspend "+e+";"), api.ErrName)
	}
}

// Promise 4.2: where a way leads.
func TestMissing(t *testing.T) {
	wrong(t, one("go --> p;"), api.ErrMissing)
	wrong(t, one("go --> S;"), api.ErrMissing)
	wrong(t, one("go --> a;"), api.ErrMissing)
	wrong(t, one("go --> s; abort immediate --> c;"), api.ErrMissing)
	wrong(t, in("initial @state s { go --> p; region { initial state p; } }"), api.ErrMissing)
	wrong(t, in("initial state s { region { initial @state p { go --> s; } } }"), api.ErrMissing)
	wrong(t, in("initial state s { region { initial @state p { go --> q; } } region { initial state q; } }"), api.ErrMissing)
	wrong(t, in("initial state s { join --> p; region { initial state p; } } state p { go --> s; } @state q { abort --> r; }"), api.ErrMissing)
	wrong(t, "chart c { region { initial @state s { go --> p; } } region { initial state p; } }", api.ErrMissing)
	wrong(t, "chart c { region { initial state p; } region { initial @state s { go --> p; } } }", api.ErrMissing)
	right(t, in("initial state s { go --> p; region { initial state q { go --> p; } state p; } } state p;"))
}

// Promise 4.2: ways that may not be of that state.
func TestWayState(t *testing.T) {
	wrong(t, one("join --> s;"), api.ErrState)
	wrong(t, one("go --> s; join if a do x := 1 --> s;"), api.ErrState)
	wrong(t, in("initial @state s { join --> p; } state p { region { initial state q; } }"), api.ErrState)
	wrong(t, in("initial state s { region { initial @state q { join --> q; } } }"), api.ErrState)
	for _, word := range []string{"go", "abort", "join"} {
		way := word + " immediate if count $ a --> p;"
		s := in("initial @state s { " + way + " region { initial state q; } } state p;")
		wrong(t, strings.Replace(s, "$", "2", 1), api.ErrState)
		wrong(t, strings.Replace(s, "$", "1000", 1), api.ErrState)
		right(t, strings.NewReplacer("@", "", "$", "1").Replace(s))
		right(t, strings.NewReplacer("@", "", "$", "2", " immediate", "").Replace(s))
		right(t, strings.NewReplacer("@", "", "count $ ", "").Replace(s))
	}
	// A region without states is one.
	wrong(t, in("initial state s { join --> s; region { @} }"), api.ErrNone)
}

// Promise 4.2: what must be so of a way.
func TestWhen(t *testing.T) {
	for _, e := range []string{"z", "pre(z)", "!z", "-(a + z)", "count 3 a && z", "s", "c", "z || a", "a < z"} {
		wrong(t, one("go if "+e+" --> s;"), api.ErrName)
		wrong(t, one("go if a --> s; abort if "+e+" --> s history;"), api.ErrName)
	}
}

// Promise 4.2: of one state what is told first; each of these is wrong with
// all that stands behind it, too.
func TestFirstOfAState(t *testing.T) {
	parts := []struct {
		text string
		want api.Errno
	}{
		{"entry a := 1;", api.ErrArg},
		{"entry z := 1;", api.ErrName},
		{"during b := 1;", api.ErrArg},
		{"during x := z;", api.ErrName},
		{"exit a := b;", api.ErrArg},
		{"exit x := pre(z);", api.ErrName},
		{"suspend z;", api.ErrName},
		{"go --> q;", api.ErrMissing},
		{"go immediate if count 2 a --> s;", api.ErrState},
		{"go if z --> s;", api.ErrName},
		{"go do a := 1 --> s;", api.ErrArg},
		{"go do x := z --> s;", api.ErrName},
	}
	for i, p := range parts {
		var same, turned string
		for _, q := range parts[i:] {
			same += q.text
			// Of one list the text's order is its own; of others it is nothing.
			if !strings.HasPrefix(q.text, p.text[:2]) {
				turned = q.text + turned
			}
		}
		wrong(t, one(same), p.want)
		wrong(t, one("region { } "+turned+p.text), p.want)
		wrong(t, one(turned+p.text+"region { state r; state r; }"), p.want)
		wrong(t, in("initial @final state s { go --> s; "+same+" }"), api.ErrState)
		wrong(t, in("initial state s; @final state s { go --> s; "+same+" }"), api.ErrTwice)
	}
}

// Promise 4.2: of one way what is told first, and of several ways the first.
func TestFirstOfAWay(t *testing.T) {
	wrong(t, one("join immediate if count 2 z do a := 1 --> q;"), api.ErrMissing)
	wrong(t, one("join if z do a := 1 --> s;"), api.ErrState)
	wrong(t, one("go immediate if count 2 z do a := 1 --> s;"), api.ErrState)
	wrong(t, one("go if z do a := 1 --> s;"), api.ErrName)
	wrong(t, one("go do a := 1, x := z --> s;"), api.ErrArg)
	wrong(t, one("go do x := z, a := 1 --> s;"), api.ErrName)
	wrong(t, one("go do a := 1 --> s; go --> q;"), api.ErrArg)
	wrong(t, one("go if z --> s; join --> q;"), api.ErrName)
	wrong(t, one("join --> s; go --> q;"), api.ErrState)
	wrong(t, one("go --> q; join --> s; go if z --> s; go do a := 1 --> s;"), api.ErrMissing)
}

// Promise 4.2: of several states the first one of the text is told, what is in
// it ahead of those behind it.
func TestFirstState(t *testing.T) {
	wrong(t, in("initial state p; @state q { suspend z; } state p; final state r { go --> p; }"), api.ErrName)
	wrong(t, in("initial state p; @state p { suspend z; } state q { entry a := 1; }"), api.ErrTwice)
	wrong(t, in("initial @state p { entry a := 1; region { initial state q { suspend z; } } }"), api.ErrArg)
	wrong(t, in("initial @state p { region { initial state q { suspend z; } } go --> q; }"), api.ErrMissing)
	wrong(t, in("initial state p { region { initial @state q { suspend z; } } } state p;"), api.ErrName)
	wrong(t, in("initial state p { region { initial state q { region { initial state r; @state r; } } } } final state q { go --> p; }"), api.ErrTwice)
	wrong(t, in("initial state p { region { initial state q; } region { initial @state q { join --> q; } } } state r { entry a := 1; }"), api.ErrState)
	wrong(t, "chart c { region { initial state p; state q; @state p; } region { initial state p { entry z := 1; } } }", api.ErrTwice)
	wrong(t, "chart c { region { initial state p { region { initial state q; state r; } } state q; } region { initial state r; @state p { entry z := 1; } } }", api.ErrName)
}

// Promise 4.2: of a region: none is First, or several are.
func TestFirsts(t *testing.T) {
	wrong(t, in("@"), api.ErrNone)
	wrong(t, in("@state s;"), api.ErrNone)
	wrong(t, in("@state p; final state q; state r { go --> p; }"), api.ErrNone)
	wrong(t, in("@initial state p; initial state q;"), api.ErrFull)
	wrong(t, in("@state p; initial state q; state r; initial state s;"), api.ErrFull)
	wrong(t, in("@initial state p; initial state q; initial state r;"), api.ErrFull)
	wrong(t, in("@initial state p; state q; initial final state r;"), api.ErrFull)
}

// Promise 4.2: of a region: it has no Order.
func TestCycle(t *testing.T) {
	wrong(t, in("@initial state s { go immediate --> s; }"), api.ErrCycle)
	wrong(t, in("@initial state p { go immediate if a --> q; } state q { abort immediate --> p; }"), api.ErrCycle)
	wrong(t, in("@initial state p; state q; state r { go immediate if 0 --> r; }"), api.ErrCycle)
	wrong(t, in("@state p { go immediate --> q; } initial state q { go immediate --> r; } state r { go immediate --> s; } state s { go immediate --> q; }"), api.ErrCycle)
	wrong(t, in("@initial state s { join immediate --> s; region { initial state p; } }"), api.ErrCycle)
	wrong(t, in("initial state s { go immediate --> p; region { @initial state p { go immediate --> p; } } } state p;"), api.ErrCycle)
	right(t, in("initial state p { go immediate --> q; } state q { go --> p; }"))
	right(t, in("initial state p { go --> q; } state q { go immediate --> p; }"))
	right(t, in("initial state p { go immediate --> q; go immediate --> r; } state q; state r { go immediate --> q; }"))
	// Regions that go round together, but none of them alone.
	right(t, in("initial state p { go immediate --> q; region { initial state q { go immediate --> p; } state p; } } state q;"))
}

// Promise 4.2: what of a region is told first, and where, if it has no state.
func TestFirstOfARegion(t *testing.T) {
	wrong(t, in("@state s { go immediate --> s; }"), api.ErrNone)
	wrong(t, in("@initial state s { go immediate --> s; } initial state p;"), api.ErrFull)
	// Behind all its states, and what is in them.
	wrong(t, in("state p; state q; @state r { suspend z; }"), api.ErrName)
	wrong(t, in("initial state p; initial state q; @state p;"), api.ErrTwice)
	wrong(t, in("initial state p { go immediate --> p; } state q { region { initial @state r { entry a := 1; } } }"), api.ErrArg)
	wrong(t, in("state p { region { @} }"), api.ErrNone)
	wrong(t, in("initial state p; initial state q { region { @state r; } }"), api.ErrNone)
	// A region inside is whole ahead of the next state, and of the next region.
	wrong(t, in("state p { region { @state q; } } state r { suspend z; }"), api.ErrNone)
	wrong(t, in("state p { region { @initial state q; initial state r; } region { } } state r { suspend z; }"), api.ErrFull)
	wrong(t, in("state p { region { initial state q; } region { @} region { state p; } }"), api.ErrNone)
	wrong(t, "chart c { region { @} region { initial state s { entry z := 1; } } }", api.ErrNone)
	wrong(t, "chart c { region { initial state s; } region { @} }", api.ErrNone)
	wrong(t, "chart c { region { initial state s; } region { initial state p; state q; } region { @} region { } }", api.ErrNone)
	wrong(t, "chart c { region { initial state s { region { initial state p; } } state q; } region { @state r; state s; } }", api.ErrNone)
	wrong(t, "chart c { region { initial state s { region { initial state p { region { @} } } } } }", api.ErrNone)
	wrong(t, in("@initial state p { region { initial state q; state r; } } initial state r;"), api.ErrFull)
	wrong(t, in("initial state o; state p { region { initial state q; } region { @state q; state r; } }"), api.ErrNone)
}

// Rule P1: charts that no text draws; what is not told in them is no fault.
func TestOddCharts(t *testing.T) {
	set := func(name string, e *api.Expr) api.Chart {
		s := api.State{Name: "s", First: true, Enter: []api.Set{{Name: name, Expr: e}}}
		return api.Chart{Vars: []api.Declared{{Kind: api.Own, Name: "x"}, {Kind: 7, Name: ""}}, Regions: [][]api.State{{s}}}
	}
	way := func(w api.Way) api.Chart {
		return api.Chart{Regions: [][]api.State{{{First: true, Ways: []api.Way{w}}}}}
	}
	for _, c := range []struct {
		what  string
		chart api.Chart
		want  api.Errno
		place int
	}{
		{"nothing", api.Chart{}, api.ErrNone, -1},
		{"nil region", api.Chart{Regions: [][]api.State{nil}}, api.ErrNone, 0},
		{"a state without a name", api.Chart{Regions: [][]api.State{{{First: true}}}}, api.OK, -1},
		{"nil expression", set("x", nil), api.OK, -1},
		{"a variable without a name", set("", nil), api.OK, -1},
		{"code without sides", set("x", &api.Expr{Code: api.Add}), api.OK, -1},
		{"no code", set("x", &api.Expr{}), api.OK, -1},
		{"codes that are none", set("x", &api.Expr{Code: math.MaxInt, Left: &api.Expr{Code: math.MinInt}}), api.OK, -1},
		{"a number with a name", set("x", &api.Expr{Code: api.Num, Name: "z"}), api.OK, -1},
		{"the same side twice", func() api.Chart {
			e := &api.Expr{Code: api.Pre, Name: "z"}
			return set("x", &api.Expr{Code: api.Or, Left: e, Right: e})
		}(), api.ErrName, 0},
		{"a way that counts less than none", way(api.Way{Now: false, Times: math.MinInt}), api.OK, -1},
		{"a way with Now that counts none", way(api.Way{Now: true}), api.ErrCycle, 0},
		{"a way of no kind", way(api.Way{Kind: -3, Times: 9}), api.OK, -1},
	} {
		is(t, c.what, Check(c.chart), c.want, c.place)
	}
}

// Rule P1, within the document's limits: many parts nested in one another.
func TestDeep(t *testing.T) {
	const deep = 1<<16 - 1
	var regions [][]api.State
	for range deep {
		regions = [][]api.State{{{Name: "s", First: true, Regions: regions}}}
	}
	is(t, "deep", Check(api.Chart{Regions: regions}), api.OK, -1)
	inner := &regions[0][0]
	for len(inner.Regions) > 0 {
		inner = &inner.Regions[0][0]
	}
	inner.First = false
	is(t, "deep, none is First", Check(api.Chart{Regions: regions}), api.ErrNone, deep-1)

	e := &api.Expr{Code: api.Var, Name: "x"}
	last := e
	for range deep {
		e = &api.Expr{Code: api.Add, Left: &api.Expr{Code: api.Num}, Right: e}
	}
	c := api.Chart{Vars: []api.Declared{{Kind: api.In, Name: "x"}}, Regions: [][]api.State{{{First: true, Rests: e}}}}
	is(t, "deep expression", Check(c), api.OK, -1)
	last.Name = "z"
	is(t, "deep expression, no variable", Check(c), api.ErrName, 0)
}

// Rule P4: a chart is not written into, and asked again it is told the same.
func TestCheckLeavesTheChart(t *testing.T) {
	for _, s := range []string{
		in("initial state p { entry x := a; go immediate if b do y := 1 --> q; join --> p; region { initial state r; } } final state q;"),
		in("initial state p { go immediate --> q; } state q { go immediate --> p; }"),
		in("state p; state q { suspend z; }"),
	} {
		c := draw(t, s)
		// What stands behind a list's length is not written into either.
		c.Vars = append(c.Vars, api.Declared{Kind: 9, Name: "kept"})[:len(c.Vars)]
		first, second := Check(c), Check(c)
		if !reflect.DeepEqual(first, second) {
			t.Errorf("%q: %v, then %v", s, first, second)
		}
		if !reflect.DeepEqual(c, draw(t, s)) || c.Vars[:len(c.Vars)+1][len(c.Vars)].Name != "kept" {
			t.Errorf("%q was written into", s)
		}
	}
}
