package parse

import (
	"errors"
	"fmt"
	"reflect"
	"strings"
	"testing"

	"clepsydra/api"
)

// These make expressions short to write.
func num(n int64) *api.Expr               { return &api.Expr{Code: api.Num, Num: n} }
func now(name string) *api.Expr           { return &api.Expr{Code: api.Var, Name: name} }
func pre(name string) *api.Expr           { return &api.Expr{Code: api.Pre, Name: name} }
func one(code int, e *api.Expr) *api.Expr { return &api.Expr{Code: code, Left: e} }
func two(p *api.Expr, code int, q *api.Expr) *api.Expr {
	return &api.Expr{Code: code, Left: p, Right: q}
}

// inChart is a chart's text with an expression in it, and where that begins.
func inChart(e string) (string, int) {
	const ahead = "chart c { region { state s { suspend "
	return ahead + e + "; } } }", len(ahead)
}

// draws fails the test unless a text draws just that.
func draws(t *testing.T, s string, want api.Chart) {
	t.Helper()
	got, err := Parse(s)
	if err != nil || !reflect.DeepEqual(got, want) {
		t.Errorf("Parse(%.200q) = %+v, %v (%v); want %+v", s, got, err, placeOf(err), want)
	}
}

// means fails the test unless an expression draws just that.
func means(t *testing.T, s string, want *api.Expr) {
	t.Helper()
	text, _ := inChart(s)
	got, err := Parse(text)
	if err != nil {
		t.Errorf("Parse of %q: %v at %v", s, err, placeOf(err))
		return
	}
	if e := got.Regions[0][0].Rests; !reflect.DeepEqual(e, want) {
		t.Errorf("%q draws %s; want %s", s, bare(e), bare(want))
	}
}

// placeOf is an error's place; -1, if it has none.
func placeOf(err error) int {
	var at *api.At
	if errors.As(err, &at) {
		return at.Place
	}
	return -1
}

// refuses fails the test unless a text is told to be so, with its place, and
// nothing beside it.
func refuses(t *testing.T, s string, want api.Errno, place int) {
	t.Helper()
	got, err := Parse(s)
	var at *api.At
	if !errors.As(err, &at) {
		t.Errorf("Parse(%q): error %v has no place; want error %d at %d", s, err, want, place)
		return
	}
	if at.Err != want || at.Place != place || api.Tell(err) != want {
		t.Errorf("Parse(%q): error %d at %d; want error %d at %d", s, at.Err, at.Place, want, place)
	}
	if !reflect.DeepEqual(got, api.Chart{}) {
		t.Errorf("Parse(%q) tells %+v beside an error", s, got)
	}
}

// marked refuses a text in which a @ stands ahead of the token that is wrong.
func marked(t *testing.T, s string, want api.Errno) {
	t.Helper()
	at := strings.IndexByte(s, '@')
	if at < 0 || strings.Count(s, "@") > 1 {
		t.Fatalf("no mark, or several, in %q", s)
	}
	refuses(t, s[:at]+s[at+1:], want, at)
}

// accepts fails the test unless a text draws something.
func accepts(t *testing.T, s string) api.Chart {
	t.Helper()
	c, err := Parse(s)
	if err != nil {
		t.Errorf("Parse(%q): %v at %d", s, err, placeOf(err))
	}
	return c
}

// bare writes an expression as it lies, with all brackets.
func bare(e *api.Expr) string {
	if e == nil {
		return "nil"
	}
	return fmt.Sprintf("[%d %d %q %s %s]", e.Code, e.Num, e.Name, bare(e.Left), bare(e.Right))
}

// Promises 3.1, 3.2: the least charts.
func TestLeast(t *testing.T) {
	draws(t, "chart c{}", api.Chart{Name: "c"})
	draws(t, " chart # a\n\tc { # }\n } # b", api.Chart{Name: "c"})
	draws(t, "chart c { region { } }", api.Chart{Name: "c", Regions: [][]api.State{nil}})
	draws(t, "chart c { region { state s; } }", api.Chart{Name: "c", Regions: [][]api.State{{{Name: "s"}}}})
	draws(t, "chart c { region { state s { } } }", api.Chart{Name: "c", Regions: [][]api.State{{{Name: "s"}}}})
	draws(t, "chart c { region { } region { state s { region { } region { } } } }",
		api.Chart{Name: "c", Regions: [][]api.State{nil, {{Name: "s", Regions: [][]api.State{nil, nil}}}}})
}

// Promise 3.2: variables, whether ahead of regions, between or behind them.
func TestVars(t *testing.T) {
	draws(t, `chart c { input a; output b := 3; region { } var d := -4; input e := 0; region { state s; }
		output f := - 0; var g := 999999999999999999; var h := -999999999999999999; var a := 007; }`,
		api.Chart{Name: "c", Vars: []api.Declared{
			{Kind: api.In, Name: "a"}, {Kind: api.Out, Name: "b", First: 3}, {Kind: api.Own, Name: "d", First: -4},
			{Kind: api.In, Name: "e"}, {Kind: api.Out, Name: "f"}, {Kind: api.Own, Name: "g", First: 999999999999999999},
			{Kind: api.Own, Name: "h", First: -999999999999999999}, {Kind: api.Own, Name: "a", First: 7},
		}, Regions: [][]api.State{nil, {{Name: "s"}}}})
}

// Promise 3.2: all that a state may have, in any order.
func TestState(t *testing.T) {
	draws(t, `chart c { region {
		initial state a { exit x := 1; region { state in; } during y := 2; go --> b; entry x := 3, y := x;
			suspend y; abort --> a; exit y := 4, x := 5; region { final state in2; } entry z := 6; during q := 7; join --> c; }
		final state b;
		initial final state c { }
	} }`, api.Chart{Name: "c", Regions: [][]api.State{{
		{Name: "a", First: true,
			Enter:  []api.Set{{Name: "x", Expr: num(3)}, {Name: "y", Expr: now("x")}, {Name: "z", Expr: num(6)}},
			During: []api.Set{{Name: "y", Expr: num(2)}, {Name: "q", Expr: num(7)}},
			Leave:  []api.Set{{Name: "x", Expr: num(1)}, {Name: "y", Expr: num(4)}, {Name: "x", Expr: num(5)}},
			Rests:  now("y"),
			Ways: []api.Way{{Kind: api.Weak, Times: 1, To: "b"}, {Kind: api.Strong, Times: 1, To: "a"},
				{Kind: api.Join, Times: 1, To: "c"}},
			Regions: [][]api.State{{{Name: "in"}}, {{Name: "in2", Last: true}}}},
		{Name: "b", Last: true},
		{Name: "c", First: true, Last: true},
	}}})
}

// Promise 3.2: all that a way may have.
func TestWays(t *testing.T) {
	for _, k := range []struct {
		word string
		kind int
	}{{"go", 0}, {"abort", 1}, {"join", 2}} {
		for i := range 1 << 5 {
			text, want := k.word, api.Way{Kind: k.kind, Times: 1, To: "t"}
			if i&1 != 0 {
				text, want.Now = text+" immediate", true
			}
			if i&2 != 0 {
				text, want.When = text+" if ", now("a")
				if i&4 != 0 {
					text, want.Times = text+"count 12 ", 12
				}
				text += "a"
			}
			if i&8 != 0 {
				text += " do x := 1, y := pre(x)"
				want.Sets = []api.Set{{Name: "x", Expr: num(1)}, {Name: "y", Expr: pre("x")}}
			}
			text += " --> t"
			if i&16 != 0 {
				text, want.Back = text+" history", true
			}
			s := "chart c { region { state s { " + text + "; } } }"
			draws(t, s, api.Chart{Name: "c", Regions: [][]api.State{{{Name: "s", Ways: []api.Way{want}}}}})
		}
	}
}

// Promises 3.1, 3.2: what an expression draws.
func TestExpr(t *testing.T) {
	a, b, c := now("a"), now("b"), now("c")
	means(t, "a", a)
	means(t, "12", num(12))
	means(t, "0", num(0))
	means(t, "0012", num(12))
	means(t, "999999999999999999", num(999999999999999999))
	means(t, "pre(a)", pre("a"))
	means(t, "pre # \n ( a )", pre("a"))
	means(t, "(a)", a)
	means(t, "-a", one(api.Neg, a))
	means(t, "-1", one(api.Neg, num(1)))
	means(t, "!a", one(api.Not, a))
	means(t, "-!--a", one(api.Neg, one(api.Not, one(api.Neg, one(api.Neg, a)))))
	means(t, "!(a + b)", one(api.Not, two(a, api.Add, b)))
	means(t, "-a + b", two(one(api.Neg, a), api.Add, b))
	means(t, "!a == b", two(one(api.Not, a), api.Eq, b))
	means(t, "-pre(a) * -(b)", two(one(api.Neg, pre("a")), api.Mul, one(api.Neg, b)))
	means(t, "a - -b", two(a, api.Sub, one(api.Neg, b)))
	means(t, "a--b", two(a, api.Sub, one(api.Neg, b)))
	means(t, "a - (b - c)", two(a, api.Sub, two(b, api.Sub, c)))
	means(t, "((a) - (b)) - c", two(two(a, api.Sub, b), api.Sub, c))
	means(t, "prefix", now("prefix"))
	means(t, "Chart", now("Chart"))
	means(t, "_", now("_"))
}

// level tells how tightly signs bind, as 3.1 has them from E down to PRO.
var level = []struct {
	text string
	code int
	deep int
}{
	{"||", 16, 1}, {"&&", 15, 2}, {"==", 11, 3}, {"!=", 12, 3}, {"<", 13, 3}, {"<=", 14, 3},
	{"+", 6, 4}, {"-", 7, 4}, {"*", 8, 5}, {"/", 9, 5}, {"%", 10, 5},
}

// Promise 3.2: of any two signs the tighter one binds first, else the left one.
func TestSigns(t *testing.T) {
	a, b, c := now("a"), now("b"), now("c")
	for _, p := range level {
		means(t, "a "+p.text+" b", two(a, p.code, b))
		means(t, "a"+p.text+"b", two(a, p.code, b))
		for _, q := range level {
			want := two(two(a, p.code, b), q.code, c)
			if q.deep > p.deep {
				want = two(a, p.code, two(b, q.code, c))
			}
			means(t, "a "+p.text+" b "+q.text+" c", want)
			means(t, "(a "+p.text+" b) "+q.text+" c", two(two(a, p.code, b), q.code, c))
			means(t, "a "+p.text+" (b "+q.text+" c)", two(a, p.code, two(b, q.code, c)))
		}
	}
}

// keywords are what no NAME may be.
var keywords = strings.Fields("abort chart count do during entry exit final go history immediate if initial input join output pre region state suspend var")

// Promise 3.1: a NAME is no word of the chart's own, and is not too long; both
// hold wherever one stands.
func TestNames(t *testing.T) {
	for _, s := range []string{
		"chart %s { }",
		"chart c { input %s; }",
		"chart c { output %s := 1; }",
		"chart c { var %s; }",
		"chart c { region { state %s; } }",
		"chart c { region { state %s { } } }",
		"chart c { region { state s { entry %s := 1; } } }",
		"chart c { region { state s { during %s := 1; } } }",
		"chart c { region { state s { exit x := 1, %s := 1; } } }",
		"chart c { region { state s { entry x := %s; } } }",
		"chart c { region { state s { entry x := (1 + %s); } } }",
		"chart c { region { state s { suspend pre(%s); } } }",
		"chart c { region { state s { go if count 2 %s --> s; } } }",
		"chart c { region { state s { go do %s := 1 --> s; } } }",
		"chart c { region { state s { go --> %s; } } }",
		"chart c { region { state s { go --> %s history; } } }",
	} {
		at := strings.Index(s, "%s")
		put := func(name string) string { return fmt.Sprintf(s, name) }
		for _, name := range []string{"a", "_", "A9", "abcdefghijkl", "____________", "a12345678901", "GO", "charts", "cha"} {
			accepts(t, put(name))
		}
		for _, name := range []string{"abcdefghijklm", "_____________", "a123456789012", strings.Repeat("x", 5000)} {
			refuses(t, put(name), api.ErrLimit, at)
		}
		for _, w := range keywords {
			// Behind if a count would stand there, but here one does already.
			if w != "pre" || !strings.Contains(s, "x := %s") && !strings.Contains(s, "+ %s") && !strings.Contains(s, "2 %s") {
				refuses(t, put(w), api.ErrForm, at)
			}
		}
		refuses(t, put("}"), api.ErrForm, at)
		refuses(t, put(""), api.ErrForm, at+strings.IndexFunc(s[at+2:], func(c rune) bool { return c != ' ' }))
	}
	refuses(t, "chart c { region { state s { suspend pre; } } }", api.ErrForm, 40)
	// Where no NAME may stand, one that is too long may not stand, either.
	marked(t, "chart c @abcdefghijklm", api.ErrForm)
	marked(t, "chart c { @abcdefghijklm", api.ErrForm)
	marked(t, "chart c { region { state s { @abcdefghijklm := 1; } } }", api.ErrForm)
	marked(t, "chart c { } @abcdefghijklm", api.ErrForm)
	// Of two tokens the first one's fault is told.
	marked(t, "chart @abcdefghijklm } }", api.ErrLimit)
	marked(t, "chart c @} abcdefghijklm", api.ErrForm)
}

// Promise 3.1: Split's errors are told ahead of all others.
func TestSplitFirst(t *testing.T) {
	marked(t, "chart chart { @$ }", api.ErrForm)
	marked(t, "} } @1234567890123456789", api.ErrLimit)
	marked(t, "chart c { } @=", api.ErrForm)
	marked(t, strings.Repeat("; ", 600)+"@;", api.ErrLimit)
	refuses(t, strings.Repeat("; ", 600), api.ErrForm, 0)
	marked(t, "chart abcdefghijklm { @>", api.ErrForm)
}

// lines are a text's, without those that are empty.
func lines(s string) []string {
	return strings.FieldsFunc(s, func(c rune) bool { return c == '\n' })
}

// Promise 3.1: a token that may not stand there is told, the first one alone.
func TestForm(t *testing.T) {
	for _, s := range []string{"@", "  @", "# x\n@", "chart c { #}@"} {
		marked(t, s, api.ErrForm)
	}
	for _, s := range lines(`
@c
@1
@{
@Chart c { }
chart @
chart @1
chart @{ }
chart c @
chart c @;
chart c { @
chart c { @; }
chart c { } @}
chart c { } @chart
chart c { } @;
chart c { @state s; }
chart c { @initial state s; }
chart c { @go --> s; }
chart c { @x; }
chart c { @{ } }
chart c { input @; }
chart c { input @1; }
chart c { input a @}
chart c { input a @, b; }
chart c { input a @== 1; }
chart c { input a @1; }
chart c { input a := @; }
chart c { input a := @b; }
chart c { input a := - @- 1; }
chart c { input a := - @; }
chart c { input a := @+ 1; }
chart c { input a := @(1); }
chart c { input a := @!1; }
chart c { input a := 1 @+ 1; }
chart c { input a := 1 @}
chart c { input a @:: 1; }
chart c { region @; }
chart c { region @r { } }
chart c { region { @
chart c { region { @; } }
chart c { region { @region { } } }
chart c { region { @input a; } }
chart c { region { @go --> s; } }
chart c { region { } @; }
chart c { region { initial @initial state s; } }
chart c { region { final @initial state s; } }
chart c { region { final @final state s; } }
chart c { region { initial @s; } }
chart c { region { initial @} }
chart c { region { initial final @} }
chart c { region { state @; } }
chart c { region { state s @} }
chart c { region { state s @--> t; } }
chart c { region { state s { } @; } }
chart c { region { state s @initial; } }
`) {
		marked(t, s, api.ErrForm)
	}
}

// Promise 3.1: the same in a state.
func TestFormInState(t *testing.T) {
	for _, s := range lines(`
@; } } }
@state t; } } }
@initial state t; } } }
@input a; } } }
@x := 1; } } }
@do x := 1; } } }
@immediate go --> s; } } }
entry @; } } }
entry x @; } } }
entry x @== 1; } } }
entry x @: 1; } } }
entry x := @; } } }
entry x := 1 @} } }
entry x := 1, @; } } }
entry x := 1 @y := 2; } } }
entry x := 1 @:= 2; } } }
entry x := 1, y @, z; } } }
during @1 := 2; } } }
exit @( x := 2 ); } } }
suspend @; } } }
suspend a @b; } } }
suspend a @, b; } } }
suspend a @} } }
suspend a @:= 2; } } }
suspend @count 2 a; } } }
go @; } } }
go @s; } } }
go @{ } } }
go @abort --> s; } } }
go @history --> s; } } }
go @count 2 --> s; } } }
go immediate @immediate --> s; } } }
go if a @immediate --> s; } } }
go if @--> s; } } }
go if a @if b --> s; } } }
go if a @; } } }
go if a @count 2 --> s; } } }
go if count @a --> s; } } }
go if count @-1 a --> s; } } }
go if count @(1) a --> s; } } }
go if count 2 @--> s; } } }
go if count 2 @count 2 a --> s; } } }
go if count 2 @do x := 1 --> s; } } }
go do @--> s; } } }
go do x := 1 @if a --> s; } } }
go do x := 1 @do y := 1 --> s; } } }
go do x := 1, @--> s; } } }
go do x := 1 @; } } }
go --> @; } } }
go --> @1; } } }
go --> @history; } } }
go --> s @} } }
go --> s @, t; } } }
go --> s @if a; } } }
go --> s @--> t; } } }
go --> s history @history; } } }
`) {
		marked(t, "chart c { region { state s { "+s, api.ErrForm)
		marked(t, "chart c { region { state r { region { } suspend a; entry x := 1; go --> s; } state s { during y := (x); "+s, api.ErrForm)
	}
}

// Promise 3.1: the same in an expression.
func TestFormInExpr(t *testing.T) {
	for _, e := range lines(`
@
@)
(@)
(a @]
((a) @]
a@)
a @a
a @1
1 @a
1 @1
a @(b)
a @!b
a @pre(b)
(a) @b
a + @
a + @* b
a @: b
@+ a
@* a
-@
!@
- @+ a
! @== a
a == @== b
a < @< b
a && @&& b
a || @|| b
pre @a
pre(@)
pre(@1)
pre(@-a)
pre(@(a))
pre(a @+ b)
pre(a @]
pre(@pre(a))
pre @{ a }
(a @, b)
a @:= b
(a + @)
@{ a }
@if
@go
@:= a
`) {
		// What has a ] ends there, with the ; alone.
		text, _ := inChart(e)
		text, _, _ = strings.Cut(strings.Replace(text, "]", "", 1), " }")
		marked(t, text, api.ErrForm)
	}
	marked(t, "chart c { region { state s { suspend a @--> s; } } }", api.ErrForm)
	marked(t, "chart c { region { state s { suspend a +@", api.ErrForm)
	marked(t, "chart c { region { state s { suspend @", api.ErrForm)
}

// Promise 3.1: the N of a count.
func TestCount(t *testing.T) {
	const way = "chart c { region { state s { abort if count %s a --> s; } } }"
	for text, n := range map[string]int{"1": 1, "2": 2, "999": 999, "1000": 1000, "0001000": 1000, "01": 1} {
		c := accepts(t, fmt.Sprintf(way, text))
		if w := c.Regions[0][0].Ways[0]; w.Times != n || w.When == nil {
			t.Errorf("count %s is %d", text, w.Times)
		}
	}
	for _, text := range []string{"0", "00", "1001", "001001", "4294967297", "999999999999999999"} {
		refuses(t, fmt.Sprintf(way, text), api.ErrLimit, strings.Index(way, "%s"))
	}
	marked(t, "chart c { region { state s { go if count @0", api.ErrLimit)
	marked(t, "chart c { region { state s { go if count @0 } --> s; } } }", api.ErrLimit)
	marked(t, "chart c { region { state s { go if count 5 0 @0 --> s; } } }", api.ErrForm)
	accepts(t, "chart c { region { state s { go if count 5 0 --> s; } } }")
	accepts(t, "chart c { region { state s { go if 0 == 1001 --> s; } } }")
}

// many is a text so many times.
func many(n int, s string) string { return strings.Repeat(s, n) }

// Promise 3.1: MaxVars. What stands behind the word of one more is refused
// whatever it is, but not the word itself.
func TestMaxVars(t *testing.T) {
	vars := func(n int) string {
		s := "chart c { "
		for i := range n {
			s += fmt.Sprintf("%s v%d; ", []string{"input", "output", "var"}[i%3], i)
		}
		return s
	}
	if c := accepts(t, vars(20)+"}"); len(c.Vars) != 20 {
		t.Errorf("%d variables are drawn", len(c.Vars))
	}
	accepts(t, vars(19)+"region { } var x; region { } }")
	for _, word := range []string{"input ", "output ", "var "} {
		for _, behind := range []string{"@", "@x; }", "@;", "@1", "@chart", "@abcdefghijklm; }", "@var", "@}"} {
			marked(t, vars(20)+word+behind, api.ErrLimit)
			marked(t, vars(20)+"region { } "+word+behind, api.ErrLimit)
		}
		marked(t, vars(19)+word+"@;", api.ErrForm)
	}
	marked(t, vars(20)+"@x", api.ErrForm)
	marked(t, vars(20)+"@go", api.ErrForm)
}

// Promise 3.1: MaxStates, of all regions together.
func TestMaxStates(t *testing.T) {
	spread := func(n int) string {
		s := "chart c { region { state o { region { state i { go --> i; } } region { } "
		return s + "} } region { " + many(n-2, "final state s; ")
	}
	accepts(t, spread(24)+"} }")
	accepts(t, "chart c { region { "+many(24, "initial state s { } ")+"} }")
	for _, behind := range []string{"@", "@x; } }", "@;", "@1", "@state", "@abcdefghijklm;", "@}"} {
		marked(t, spread(24)+"state "+behind, api.ErrLimit)
		marked(t, spread(24)+"initial final state "+behind, api.ErrLimit)
		marked(t, "chart c { region { "+many(23, "state s; ")+"state s { region { state "+behind, api.ErrLimit)
	}
	marked(t, spread(23)+"state @;", api.ErrForm)
	marked(t, spread(24)+"initial @x", api.ErrForm)
	marked(t, spread(24)+"@x", api.ErrForm)
}

// Promise 3.1: MaxDepth, of regions.
func TestMaxDepth(t *testing.T) {
	deep := func(n int) string { return "chart c { " + many(n, "region { state s { ") }
	accepts(t, deep(6)+many(6, "} } ")+"}")
	accepts(t, deep(6)+many(5, "} } ")+many(5, "region { state s { ")+many(6, "} } ")+"}")
	accepts(t, "chart c { "+many(10, "region { } ")+"}")
	for _, behind := range []string{"@", "@{ } } }", "@;", "@1", "@region", "@x", "@}"} {
		marked(t, deep(6)+"region "+behind, api.ErrLimit)
		marked(t, deep(6)+many(4, "} } ")+many(4, "region { state s { ")+"go --> s; region "+behind, api.ErrLimit)
	}
	marked(t, deep(5)+"region @;", api.ErrForm)
	marked(t, deep(6)+"@{", api.ErrForm)
}

// Promise 3.1: MaxDepth, of what stands ahead of a ONE.
func TestMaxDepthOfOne(t *testing.T) {
	for _, in := range signsOf(6) {
		closes := many(strings.Count(in, "("), ")")
		for _, ahead := range []string{"", "a - ", "((((((a)))))) * ", "!-!-!-a && ", "a < b || "} {
			for _, x := range []string{"x", "7", "pre(x)"} {
				text, _ := inChart(ahead + in + x + closes)
				accepts(t, text)
			}
			for _, sign := range []string{"-", "!", "("} {
				for _, behind := range []string{"@x", "@;", "@)", "@7", "@", "@(", "@-", "@abcdefghijklm", "@go"} {
					text, _ := inChart(ahead + in + sign + behind)
					marked(t, text, api.ErrLimit)
				}
			}
			text, _ := inChart(ahead + in + "@;")
			marked(t, text, api.ErrForm)
		}
	}
	for _, in := range lines(`
((((((x - -@1
((((((x + (@x
((((((x - 1 * !@x
(((x) + ((y) + (-(!@z
---(x + ---@y
-(-(-(x - !@y
-(-(-x - !(y - (@z
-(-(-(-@x
`) {
		text, _ := inChart(in)
		marked(t, text, api.ErrLimit)
	}
	for _, in := range lines(`
((((((x - 1 - y - 2)))))) - (x)
-(-(-x - !(y) - !y))
(((x) + ((y) + (-(z)))))
((((((pre(x) - pre(y)))))))
x - x - x - x - x - x - x - x - x - x
(x) + (x) + (x) + (x) + (x) + (x) + (x) + (x)
-x + -x + -x + -x + !x + !x + !x + !x
------x == ------x
`) {
		text, _ := inChart(in)
		accepts(t, text)
	}
	// The - of a variable, and the brackets of pre, are none of ONE's.
	marked(t, "chart c { var v := - @------1; }", api.ErrForm)
}

// signsOf are all texts of so many signs of one, and brackets.
func signsOf(n int) []string {
	if n == 0 {
		return []string{""}
	}
	var l []string
	for _, s := range signsOf(n - 1) {
		l = append(l, "-"+s, "!"+s, "("+s)
	}
	return l
}

// Promise 3.1: a second suspend, of one state.
func TestSuspendTwice(t *testing.T) {
	const ahead = "chart c { region { state s { suspend a; "
	for _, behind := range []string{"@", "@b; } } }", "@;", "@)", "@suspend", "@abcdefghijklm;", "@1"} {
		marked(t, ahead+"suspend "+behind, api.ErrTwice)
		marked(t, ahead+"region { state t { suspend b; } } go --> s; suspend "+behind, api.ErrTwice)
		marked(t, "chart c { region { state r { suspend a; } state s { entry x := 1; suspend 0; suspend "+behind, api.ErrTwice)
	}
	accepts(t, ahead+"region { state t { suspend b; } } } state u { suspend c; } } }")
	marked(t, "chart c { region { state s { suspend @; suspend", api.ErrForm)
	marked(t, ahead+"suspend @suspend a; } } }", api.ErrTwice)
}
