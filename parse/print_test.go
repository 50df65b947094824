package parse

import (
	"fmt"
	"math/rand"
	"reflect"
	"strings"
	"testing"

	"clepsydra/api"
)

// prints fails the test unless a chart's text is printed so, and that again.
func prints(t *testing.T, s, want string) {
	t.Helper()
	c := accepts(t, s)
	got := Print(c)
	if got != want {
		t.Errorf("%q is printed\n%s\nwant\n%s", s, got, want)
	}
	again := accepts(t, got)
	if !reflect.DeepEqual(again, c) {
		t.Errorf("%q, printed, draws %+v; want %+v", s, again, c)
	}
	if p := Print(again); p != got {
		t.Errorf("%q is printed anew\n%s", got, p)
	}
}

// writes fails the test unless an expression's text is written so.
func writes(t *testing.T, s, want string) {
	t.Helper()
	text, _ := inChart(s)
	c := accepts(t, text)
	if len(c.Regions) == 0 {
		return
	}
	e := c.Regions[0][0].Rests
	if got := Expr(e); got != want {
		t.Errorf("%q is written %q; want %q", s, got, want)
	}
	means(t, want, e)
}

// Promise 3.3: all that a chart may have, each in its line.
func TestPrint(t *testing.T) {
	prints(t, `chart all { region { state a { } initial state b{go-->a;}
		final state d; initial final state e { exit x:=1,y:=(2); suspend (a)||b; region { } join immediate if (a) do x:=1 , y:=-3 --> a history;
		abort if count 2 a --> b history; entry x:=1; go do z := z --> e; during y:=pre( y ); go if count 1 x <= 1 --> b;
		region { state in { region { state deep { entry q := 0; } } } } entry y := !x; go immediate --> e; } }
		input i; output o := 5; var v := - 7; input j := 0; region { } output p := -0; var w := 0012; }`,
		`chart all {
  input i;
  output o := 5;
  var v := -7;
  input j;
  output p;
  var w := 12;
  region {
    state a;
    initial state b {
      go --> a;
    }
    final state d;
    initial final state e {
      entry x := 1, y := !x;
      during y := pre(y);
      exit x := 1, y := 2;
      suspend a || b;
      join immediate if a do x := 1, y := -3 --> a history;
      abort if count 2 a --> b history;
      go do z := z --> e;
      go if x <= 1 --> b;
      go immediate --> e;
      region {
      }
      region {
        state in {
          region {
            state deep {
              entry q := 0;
            }
          }
        }
      }
    }
  }
  region {
  }
}
`)
	prints(t, "chart c{}", "chart c {\n}\n")
	prints(t, "chart c{var v;}", "chart c {\n  var v;\n}\n")
	prints(t, "chart c{var v:=-999999999999999999;}", "chart c {\n  var v := -999999999999999999;\n}\n")
}

// Promise 3.3: each part alone is enough for a { behind a state.
func TestPrintParts(t *testing.T) {
	for _, part := range []string{"entry x := 1;", "during x := 1;", "exit x := 1;", "suspend x;", "go --> s;", "abort --> s;", "join --> s;", "region {\n      }"} {
		prints(t, "chart c { region { state s { "+part+" } } }",
			"chart c {\n  region {\n    state s {\n      "+part+"\n    }\n  }\n}\n")
	}
	for _, ahead := range []string{"", "initial ", "final ", "initial final "} {
		prints(t, "chart c { region { "+ahead+"state s { } } }", "chart c {\n  region {\n    "+ahead+"state s;\n  }\n}\n")
	}
	for _, times := range []string{"count 2 ", "count 1000 "} {
		prints(t, "chart c { region { state s { go if "+times+"(a) --> s; } } }",
			"chart c {\n  region {\n    state s {\n      go if "+times+"a --> s;\n    }\n  }\n}\n")
	}
}

// Promise 3.3, example 3.
func TestPrintExample(t *testing.T) {
	prints(t, "chart c { region { state s { go if (a) do b := b + (1 * a) --> s; } } }",
		"chart c {\n  region {\n    state s {\n      go if a do b := b + 1 * a --> s;\n    }\n  }\n}\n")
}

// Promise 3.3: expressions.
func TestWriteExpr(t *testing.T) {
	if got := Expr(nil); got != "" {
		t.Errorf("nil is written %q", got)
	}
	for _, s := range lines(`
a
0
12
999999999999999999
pre(a)
-a
!a
--a
-!-a
-(a + b)
!(a && b)
-(a * b) * c
a - -b
a - b - c
a - (b - c)
a - (b + c)
a + (b + c)
a + b + c
a * (b / c)
a * b / c
(a + b) * c
a + b * c
a < b < c
a < (b < c)
a == b + 1
(a == b) + 1
a && b || c && d
a && (b || c) && d
a || (b || c)
(a || b) == c
a == (b || c)
!(a == b)
!a == b
-a * -b
-(-a - -b)
-pre(a) % 3
`) {
		writes(t, s, s)
	}
	writes(t, "((a))", "a")
	writes(t, "(a)+(b)", "a + b")
	writes(t, "(a*b)+(c)", "a * b + c")
	writes(t, "- (a)", "-a")
	writes(t, "! ! (- 1)", "!!-1")
	writes(t, "(-a) - (-(b))", "-a - -b")
	writes(t, "((a-b)-c)", "a - b - c")
	writes(t, "-(pre ( a ))", "-pre(a)")
	writes(t, "007", "7")
	writes(t, "a#\n<=b", "a <= b")
}

// Promise 3.3: of any two signs, brackets stand where they must be alone.
func TestWriteSigns(t *testing.T) {
	for _, p := range level {
		for _, q := range level {
			left, right := "(a %s b) %s c", "a %s (b %s c)"
			if p.deep >= q.deep {
				left = "a %s b %s c"
			}
			if q.deep > p.deep {
				right = "a %s b %s c"
			}
			writes(t, fmt.Sprintf("(a %s b) %s c", p.text, q.text), fmt.Sprintf(left, p.text, q.text))
			writes(t, fmt.Sprintf("a %s (b %s c)", p.text, q.text), fmt.Sprintf(right, p.text, q.text))
		}
		for _, one := range []string{"-", "!"} {
			writes(t, one+"(a "+p.text+" b)", one+"(a "+p.text+" b)")
			writes(t, "("+one+"a) "+p.text+" ("+one+"b)", one+"a "+p.text+" "+one+"b")
		}
	}
}

// tree is an expression that is drawn by lot.
func (d draw) tree(deep int) *api.Expr {
	if deep == 0 || d.Intn(4) == 0 {
		switch d.Intn(3) {
		case 0:
			return num(int64(d.Intn(30)))
		case 1:
			return now(d.of("a", "b", "long_name_12"))
		}
		return pre(d.of("a", "b"))
	}
	if d.Intn(4) == 0 {
		return one(4+d.Intn(2), d.tree(deep-1))
	}
	return two(d.tree(deep-1), 6+d.Intn(11), d.tree(deep-1))
}

// wide writes a tree with brackets around all of two, and more at times.
func (d draw) wide(e *api.Expr) string {
	s := ""
	switch e.Code {
	case api.Num:
		s = d.of("", "0", "000") + fmt.Sprint(e.Num)
	case api.Var:
		s = e.Name
	case api.Pre:
		s = d.of("pre(", "pre ( ") + e.Name + ")"
	case api.Neg, api.Not:
		s = d.of("", " ") + map[int]string{4: "-", 5: "!"}[e.Code] + d.of("", " ") + d.wide(e.Left)
	default:
		for _, l := range level {
			if l.code == e.Code {
				return "(" + d.wide(e.Left) + d.of(" ", "\n", "\t") + l.text + d.of(" ", "#)\n") + d.wide(e.Right) + ")"
			}
		}
	}
	if d.Intn(12) == 0 {
		return "(" + s + ")"
	}
	return s
}

// few leaves out all brackets of a text without which it draws the same.
func few(t *testing.T, s string) string {
	drawn := func(s string) *api.Expr {
		text, _ := inChart(s)
		c, err := Parse(text)
		if err != nil {
			return nil
		}
		return c.Regions[0][0].Rests
	}
	want := drawn(s)
	if want == nil {
		t.Fatalf("%q draws nothing", s)
	}
	for i := 0; i < len(s); i++ {
		if s[i] != '(' || strings.HasSuffix(s[:i], "pre") {
			continue
		}
		depth, j := 1, i+1
		for ; depth > 0; j++ {
			depth += map[byte]int{'(': 1, ')': -1}[s[j]]
		}
		less := s[:i] + s[i+1:j-1] + s[j:]
		if reflect.DeepEqual(drawn(less), want) {
			s, i = less, -1
		}
	}
	return s
}

// bracketed writes a tree with all brackets, and blanks as 3.3 has them.
func bracketed(e *api.Expr) string {
	switch e.Code {
	case api.Num:
		return fmt.Sprint(e.Num)
	case api.Var:
		return e.Name
	case api.Pre:
		return "pre(" + e.Name + ")"
	case api.Neg:
		return "-" + bracketed(e.Left)
	case api.Not:
		return "!" + bracketed(e.Left)
	}
	for _, l := range level {
		if l.code == e.Code {
			return "(" + bracketed(e.Left) + " " + l.text + " " + bracketed(e.Right) + ")"
		}
	}
	return "?"
}

// Promises 3.2, 3.3: trees that are drawn by lot are what their texts draw,
// and are written with no pair of brackets that could be left out.
func TestTrees(t *testing.T) {
	d := draw{rand.New(rand.NewSource(5))}
	for range 3000 {
		e := d.tree(1 + d.Intn(3))
		if s := d.wide(e); strings.Count(s, "(") < 6 {
			means(t, s, e)
		}
		s := bracketed(e)
		means(t, s, e)
		if got, want := Expr(e), few(t, s); got != want {
			t.Errorf("%q is written %q; want %q", s, got, want)
		}
	}
}

// noise writes a chart's parts as 3.1 lets them stand: lists in pieces, with
// what may be left out, and the parts of each kind among those of others.
type noise struct{ draw }

func (n noise) sets(l []api.Set) string {
	var texts []string
	for _, s := range l {
		texts = append(texts, s.Name+n.of(":=", " := ")+n.wide(s.Expr))
	}
	return strings.Join(texts, n.of(",", " , "))
}

// pieces are what is set, as several parts.
func (n noise) pieces(word string, l []api.Set) []string {
	var parts []string
	for len(l) > 0 {
		k := 1 + n.Intn(len(l))
		parts = append(parts, word+" "+n.sets(l[:k])+";")
		l = l[k:]
	}
	return parts
}

func (n noise) way(w api.Way) string {
	s := []string{"go", "abort", "join"}[w.Kind]
	if w.Now {
		s += " immediate"
	}
	if w.When != nil {
		s += " if "
		if w.Times > 1 || n.Intn(3) == 0 {
			s += fmt.Sprintf("count %d ", w.Times)
		}
		s += n.wide(w.When)
	}
	if len(w.Sets) > 0 {
		s += " do " + n.sets(w.Sets)
	}
	s += "-->" + w.To
	if w.Back {
		s += " history"
	}
	return s + ";"
}

// mix puts lists together, each in its order.
func (n noise) mix(lists ...[]string) string {
	s := ""
	for {
		var some []int
		for i, l := range lists {
			if len(l) > 0 {
				some = append(some, i)
			}
		}
		if len(some) == 0 {
			return s
		}
		i := some[n.Intn(len(some))]
		s += lists[i][0] + n.of(" ", "\n", "# }\n", "")
		lists[i] = lists[i][1:]
	}
}

func (n noise) state(s api.State) string {
	text := ""
	if s.First {
		text += "initial "
	}
	if s.Last {
		text += "final "
	}
	var rests, ways, regions []string
	if s.Rests != nil {
		rests = []string{"suspend " + n.wide(s.Rests) + ";"}
	}
	for _, w := range s.Ways {
		ways = append(ways, n.way(w))
	}
	for _, r := range s.Regions {
		regions = append(regions, n.region(r))
	}
	in := n.mix(n.pieces("entry", s.Enter), n.pieces("during", s.During), n.pieces("exit", s.Leave), rests, ways, regions)
	if in == "" {
		return text + "state " + s.Name + n.of(";", "{}")
	}
	return text + "state " + s.Name + "{" + in + "}"
}

func (n noise) region(l []api.State) string {
	s := "region{"
	for _, st := range l {
		s += n.state(st)
	}
	return s + "}"
}

func (n noise) chart(c api.Chart) string {
	var vars, regions []string
	for _, v := range c.Vars {
		s := []string{"", "input ", "output ", "var "}[v.Kind] + v.Name
		switch {
		case v.First < 0:
			s += fmt.Sprintf(":=-%s%d", n.of("", " ", "0"), -v.First)
		case v.First > 0 || n.Intn(3) == 0:
			s += fmt.Sprintf(":=%d", v.First)
		}
		vars = append(vars, s+";")
	}
	for _, r := range c.Regions {
		regions = append(regions, n.region(r))
	}
	return "chart " + c.Name + "{" + n.mix(vars, regions) + "}"
}

func (d draw) someSets() (l []api.Set) {
	for d.Intn(3) == 0 {
		l = append(l, api.Set{Name: d.of("a", "b"), Expr: d.tree(d.Intn(2))})
	}
	return l
}

// perhaps is an expression, or none.
func (d draw) perhaps() *api.Expr {
	if d.Intn(2) == 0 {
		return nil
	}
	return d.tree(d.Intn(3))
}

func (d draw) someWay() api.Way {
	w := api.Way{Kind: d.Intn(3), Now: d.Intn(2) == 0, When: d.perhaps(), Times: 1, Sets: d.someSets(), To: d.of("s", "t"), Back: d.Intn(2) == 0}
	if w.When != nil && d.Intn(3) == 0 {
		w.Times = 2 + d.Intn(999)
	}
	return w
}

func (d draw) someRegions(deep int) (l [][]api.State) {
	for deep > 0 && d.Intn(2) == 0 {
		var states []api.State
		for d.Intn(3) > 0 && len(states) < 3 {
			s := api.State{Name: d.of("s", "t", "u"), First: d.Intn(2) == 0, Last: d.Intn(2) == 0}
			if d.Intn(4) > 0 {
				s.Enter, s.During, s.Leave, s.Rests = d.someSets(), d.someSets(), d.someSets(), d.perhaps()
				for d.Intn(2) == 0 {
					s.Ways = append(s.Ways, d.someWay())
				}
				s.Regions = d.someRegions(deep - 1)
			}
			states = append(states, s)
		}
		l = append(l, states)
	}
	return l
}

func (d draw) someChart() api.Chart {
	c := api.Chart{Name: d.of("c", "_", "long_name_12"), Regions: d.someRegions(3)}
	for d.Intn(3) > 0 && len(c.Vars) < 20 {
		v := api.Declared{Kind: 1 + d.Intn(3), Name: d.of("a", "b")}
		if d.Intn(2) == 0 {
			v.First = d.Int63n(2_000_000_000_000_000_000-1) - 999_999_999_999_999_999
		}
		c.Vars = append(c.Vars, v)
	}
	return c
}

// page is 3.3's own words: a chart's lines, each at its depth.
func page(t *testing.T, c api.Chart) string {
	var out []string
	line := func(deep int, l ...string) { out = append(out, strings.Repeat(" ", 2*deep)+strings.Join(l, "")) }
	when := func(so bool, s string) string {
		if so {
			return s
		}
		return ""
	}
	expr := func(e *api.Expr) string { return few(t, bracketed(e)) }
	sets := func(l []api.Set) string {
		var texts []string
		for _, s := range l {
			texts = append(texts, s.Name+" := "+expr(s.Expr))
		}
		return strings.Join(texts, ", ")
	}
	var regions func(deep int, l [][]api.State)
	state := func(deep int, s api.State) {
		head := when(s.First, "initial ") + when(s.Last, "final ") + "state " + s.Name
		at := len(out)
		line(deep, head, " {")
		for i, l := range [][]api.Set{s.Enter, s.During, s.Leave} {
			if len(l) > 0 {
				line(deep+1, []string{"entry ", "during ", "exit "}[i], sets(l), ";")
			}
		}
		if s.Rests != nil {
			line(deep+1, "suspend ", expr(s.Rests), ";")
		}
		for _, w := range s.Ways {
			cond, do := "", ""
			if w.When != nil {
				cond = " if " + when(w.Times > 1, fmt.Sprintf("count %d ", w.Times)) + expr(w.When)
			}
			if len(w.Sets) > 0 {
				do = " do " + sets(w.Sets)
			}
			line(deep+1, strings.Fields("go abort join")[w.Kind], when(w.Now, " immediate"), cond, do, " --> ", w.To, when(w.Back, " history"), ";")
		}
		regions(deep+1, s.Regions)
		if len(out) == at+1 {
			out = out[:at]
			line(deep, head, ";")
		} else {
			line(deep, "}")
		}
	}
	regions = func(deep int, l [][]api.State) {
		for _, r := range l {
			line(deep, "region {")
			for _, s := range r {
				state(deep+1, s)
			}
			line(deep, "}")
		}
	}
	line(0, "chart ", c.Name, " {")
	for _, v := range c.Vars {
		line(1, strings.Fields("input output var")[v.Kind-1], " ", v.Name, when(v.First != 0, fmt.Sprintf(" := %d", v.First)), ";")
	}
	regions(1, c.Regions)
	line(0, "}")
	return strings.Join(out, "\n") + "\n"
}

// Promises 3.2, 3.3: charts that are drawn by lot are what their texts draw,
// however these are written, and are printed as 3.3 has it.
func TestCharts(t *testing.T) {
	d := draw{rand.New(rand.NewSource(6))}
	n := noise{d}
	drawn := 0
	for range 1500 {
		c := d.someChart()
		s := n.chart(c)
		if got, err := Parse(s); api.Tell(err) == api.ErrLimit {
			continue // too many tokens or states
		} else if err != nil || !reflect.DeepEqual(got, c) {
			t.Fatalf("Parse(%s) = %+v, %v at %d; want %+v", s, got, err, placeOf(err), c)
		}
		drawn++
		prints(t, s, page(t, c))
	}
	if drawn < 1000 {
		t.Errorf("only %d charts are drawn", drawn)
	}
}

// P4: what is printed is not written into; what is drawn is the caller's, and
// no two lists of it share memory.
func TestOwn(t *testing.T) {
	const s = "chart c { input a; var b; region { state s { entry x := 1; entry y := 2; during z := 3; exit x := 4; go do x := 5 --> s; go do y := 6 --> t; region { state i; state j; } region { state k; } } state t; } region { state u; } }"
	c, again := accepts(t, s), accepts(t, s)
	text := Print(c)
	if !reflect.DeepEqual(c, again) {
		t.Error("Print writes into the chart")
	}
	// A list that grows may write behind its length, where no other may lie.
	_ = append(c.Vars, api.Declared{Name: "q"})
	_ = append(c.Regions, nil)
	_ = append(c.Regions[0], api.State{Name: "q"})
	_ = append(c.Regions[0][0].Enter, api.Set{Name: "q"})
	_ = append(c.Regions[0][0].During, api.Set{Name: "q"})
	_ = append(c.Regions[0][0].Ways, api.Way{To: "q"})
	_ = append(c.Regions[0][0].Ways[0].Sets, api.Set{Name: "q"})
	_ = append(c.Regions[0][0].Regions, nil)
	_ = append(c.Regions[0][0].Regions[0], api.State{Name: "q"})
	if Print(c) != text {
		t.Error("lists of a chart share memory")
	}
	c.Vars[0].Name, c.Regions[0][0].Enter[0].Name, c.Regions[0][0].Regions[0][0].Name = "q", "q", "q"
	if Print(again) != text || Print(accepts(t, s)) != text {
		t.Error("charts share memory")
	}
}

// P1: nothing panics, whatever it is given.
func TestStrange(t *testing.T) {
	a := now("a")
	for code := -3; code < 30; code++ {
		for _, e := range []*api.Expr{{Code: code}, one(code, a), two(a, code, nil), two(nil, code, a), two(one(code, nil), api.Add, one(code, a))} {
			Expr(e)
			for kind := -3; kind < 6; kind++ {
				Print(api.Chart{Vars: []api.Declared{{Kind: kind}}, Regions: [][]api.State{nil, {{
					Rests: e, Enter: []api.Set{{}, {Expr: e}},
					Ways: []api.Way{{Kind: kind, When: e, Times: kind, Sets: []api.Set{{}}}, {Times: 5}},
				}}}})
			}
		}
	}
	Expr(two(nil, -1<<63, nil))
	Expr(two(nil, 1<<63-1, nil))
	left, right, deep := a, a, a
	for range 1<<16 - 1 {
		left, right, deep = two(left, api.Add, a), two(a, api.Sub, right), one(api.Neg, deep)
	}
	if l, r, m := len(Expr(left)), len(Expr(right)), len(Expr(deep)); l != 4<<16-3 || r != 6<<16-7 || m != 1<<16 {
		t.Errorf("deep expressions are of %d, %d, %d bytes", l, r, m)
	}
	for i := range 256 {
		Parse(string([]byte{byte(i)}))
		Parse("chart c { region { state s { suspend " + string([]byte{byte(i)}))
	}
}
