package craft

import (
	"errors"
	"fmt"
	"math"
	"reflect"
	"slices"
	"strings"
	"testing"

	"clepsydra/api"
	"clepsydra/emit"
	"clepsydra/fold"
	"clepsydra/net"
	"clepsydra/pack"
	"clepsydra/parse"
	"clepsydra/plain"
	"clepsydra/prune"
	"clepsydra/run"
	"clepsydra/share"
)

// pass is one of those that make code better.
type pass = func(api.Net) (api.Net, error)

// through is code that went through passes, one behind the other.
func through(t *testing.T, n api.Net, passes ...pass) api.Net {
	t.Helper()
	for _, p := range passes {
		made, err := p(n)
		if err != nil {
			t.Fatalf("%.300s: %v", fmt.Sprint(n), err)
		}
		n = made
	}
	return n
}

// alike tells whether two codes are the same, whether an empty list is nil or not.
func alike(a, b api.Net) bool {
	return a.Places == b.Places && slices.Equal(a.First, b.First) && slices.Equal(a.Ins, b.Ins) && slices.Equal(a.Outs, b.Outs) &&
		slices.Equal(a.Keeps, b.Keeps) && slices.Equal(a.Nums, b.Nums) && slices.Equal(a.Code, b.Code)
}

// bettered is what Better tells of code that may be, held against 13.1 but for what
// its Machine tells.
func bettered(t *testing.T, n api.Net) api.Net {
	t.Helper()
	f, err := Better(n)
	if err != nil {
		t.Fatalf("%.300s: %v", fmt.Sprint(n), err)
	}
	if err := net.Check(f); err != nil {
		t.Fatalf("%.300s became %.300s, which may not be: %v", fmt.Sprint(n), fmt.Sprint(f), err)
	}
	if want := through(t, n, fold.Fold, share.Share, prune.Prune, pack.Pack); !alike(f, want) {
		t.Fatalf("%.300s became %.300s; want %.300s", fmt.Sprint(n), fmt.Sprint(f), fmt.Sprint(want))
	}
	if len(f.Ins) != len(n.Ins) || len(f.Outs) != len(n.Outs) || len(f.Code) > len(n.Code) || len(f.Keeps) > len(n.Keeps) {
		t.Errorf("%.300s became %.300s", fmt.Sprint(n), fmt.Sprint(f))
	}
	return f
}

// ticker is a Runner, or a Machine.
type ticker interface{ Tick(ins []int64) []int64 }

// agree fails the test unless two tell the same of these.
func agree(t *testing.T, what string, one, two ticker, ins [][]int64) {
	t.Helper()
	for i, told := range ins {
		if want, got := one.Tick(told), two.Tick(told); !slices.Equal(got, want) {
			t.Fatalf("%.900s: tick %d of %v: %v; want %v", what, i, ins, got, want)
		}
	}
}

// machine is of code that may be.
func machine(t *testing.T, n api.Net) *net.Machine {
	t.Helper()
	m, err := net.New(n)
	if err != nil {
		t.Fatalf("%.300s: %v", fmt.Sprint(n), err)
	}
	return m
}

// num puts a number at a place; to copies one, add, mul, neg and pick make something.
func num(place, a int) api.Step        { return api.Step{Code: api.Num, Dst: place, A: a} }
func to(place, a int) api.Step         { return api.Step{Code: api.Var, Dst: place, A: a} }
func neg(place, a int) api.Step        { return api.Step{Code: api.Neg, Dst: place, A: a} }
func add(place, a, b int) api.Step     { return api.Step{Code: api.Add, Dst: place, A: a, B: b} }
func mul(place, a, b int) api.Step     { return api.Step{Code: api.Mul, Dst: place, A: a, B: b} }
func pick(place, a, b, c int) api.Step { return api.Step{Code: api.Pick, Dst: place, A: a, B: b, C: c} }

// of is code of ten places: 9 is told ahead, 8 is kept, 7 is told.
func of(code ...api.Step) api.Net {
	return api.Net{
		Places: 10, First: []int64{3, 1, 4, 1, 5, 9, 2, 6, 5, 3}, Ins: []int{9}, Outs: []int{7}, Keeps: []int{8},
		Nums: []int64{7, -2, 7}, Code: code,
	}
}

// ticks are some that may be told.
func ticks() [][]int64 { return [][]int64{{3, 8}, nil, {-1}, {2, 2, 9}, {5}, {0, 6}} }

// worse is code of which each pass makes something that the next one needs: that 3 and
// 4 are the same number is known when it is folded; that 5 and 6 are, then, when it is
// shared; then nobody asks 1, 2, 4, 6, and what is kept at 8 is for nothing; then one
// place beside the input's and the output's is enough.
func worse() api.Net {
	return api.Net{
		Places: 9, First: []int64{11, 12, 13, 14, 15, 16, 17, 18, 19}, Ins: []int{0}, Outs: []int{7}, Keeps: []int{8},
		Nums: []int64{9, 3, 4, 7},
		Code: []api.Step{
			num(1, 1), num(2, 2), add(3, 1, 2), num(4, 3),
			mul(5, 0, 3), mul(6, 0, 4), add(8, 8, 5), add(7, 5, 6),
		},
	}
}

// Promise 13.1: folded first, then shared, then pruned, then packed: of this code each
// other order tells something else.
func TestOrder(t *testing.T) {
	n := worse()
	got := bettered(t, n)
	want := api.Net{
		Places: 3, First: []int64{11, 18, 0}, Ins: []int{0}, Outs: []int{1},
		Nums: []int64{7}, Code: []api.Step{num(2, 0), mul(2, 0, 2), add(1, 2, 2)},
	}
	if !alike(got, want) {
		t.Errorf("%v; want %v", got, want)
	}
	agree(t, "worse", machine(t, n), machine(t, got), ticks())
	passes := []pass{fold.Fold, share.Share, prune.Prune, pack.Pack}
	others := 0
	for i := range 4 * 4 * 4 * 4 {
		order := []int{i / 64, i / 16 % 4, i / 4 % 4, i % 4}
		if sorted := slices.Sorted(slices.Values(order)); !slices.Equal(sorted, []int{0, 1, 2, 3}) || slices.IsSorted(order) {
			continue
		}
		others++
		if f := through(t, n, passes[order[0]], passes[order[1]], passes[order[2]], passes[order[3]]); alike(f, want) {
			t.Errorf("in the order %v it is the same: the code tells them not apart", order)
		}
	}
	if others != 23 {
		t.Errorf("%d other orders", others)
	}
}

// Promise 13.1: of ordinary code, and of that at the edges, how much there is of it.
func TestBetter(t *testing.T) {
	for name, c := range map[string]struct {
		code          []api.Step
		steps, places int
		keeps         int
	}{
		"nothing":                            {nil, 0, 2, 0},
		"what is for nothing":                {[]api.Step{num(0, 0), neg(1, 9), add(8, 8, 9)}, 0, 2, 0},
		"a copy":                             {[]api.Step{to(7, 9)}, 1, 2, 0},
		"a copy of a copy":                   {[]api.Step{to(0, 9), to(1, 0), to(7, 1)}, 1, 2, 0},
		"a number":                           {[]api.Step{num(0, 0), num(1, 1), add(2, 0, 1), neg(7, 2)}, 1, 2, 0},
		"what is kept":                       {[]api.Step{add(8, 8, 9), to(7, 8)}, 2, 3, 1},
		"what is known to be picked":         {[]api.Step{num(0, 0), neg(1, 9), mul(2, 9, 9), pick(7, 0, 1, 2)}, 2, 3, 0},
		"what is not known to be picked":     {[]api.Step{num(0, 0), neg(1, 9), pick(7, 9, 1, 0)}, 3, 4, 0},
		"what is made twice":                 {[]api.Step{mul(0, 9, 9), mul(1, 9, 9), add(7, 0, 1)}, 2, 3, 0},
		"one number twice":                   {[]api.Step{num(0, 0), num(1, 2), mul(2, 9, 0), mul(3, 9, 1), add(7, 2, 3)}, 3, 3, 0},
		"what is asked ahead":                {[]api.Step{add(7, 0, 9), num(0, 1)}, 1, 3, 0},
		"one made of itself, over and again": {[]api.Step{neg(0, 9), mul(0, 0, 0), add(0, 0, 9), to(7, 0)}, 4, 3, 0},
	} {
		n := of(c.code...)
		f := bettered(t, n)
		if len(f.Code) != c.steps || f.Places != c.places || len(f.Keeps) != c.keeps {
			t.Errorf("%s: %v; want %d steps, %d places, %d kept", name, f, c.steps, c.places, c.keeps)
		}
		agree(t, name, machine(t, n), machine(t, f), ticks())
	}
	if f := bettered(t, api.Net{}); !alike(f, api.Net{}) {
		t.Errorf("of nothing: %v", f)
	}
}

// Promise 13.1: as much code as there may be.
func TestFull(t *testing.T) {
	n := api.Net{Places: api.MaxCode, First: make([]int64, api.MaxCode), Ins: []int{0}, Outs: []int{api.MaxCode - 1}}
	for i := range api.MaxCode {
		n.Nums = append(n.Nums, math.MinInt64+int64(i))
		n.Code = append(n.Code, neg((i+1)%api.MaxCode, i))
	}
	f := bettered(t, n)
	if f.Places != 3 || len(f.Code) != api.MaxCode-1 || len(f.Nums) != 0 {
		t.Errorf("one behind the other: %d places, %d steps, %d numbers", f.Places, len(f.Code), len(f.Nums))
	}
	agree(t, "one behind the other", machine(t, n), machine(t, f), ticks())

	n.Ins, n.Outs = nil, nil
	for i := range n.Code {
		n.Outs = append(n.Outs, i)
		n.Code[i] = num(i, i)
	}
	f = bettered(t, n)
	if f.Places != api.MaxCode || len(f.Code) != api.MaxCode || len(f.Nums) != api.MaxCode {
		t.Errorf("all numbers: %d places, %d steps, %d numbers", f.Places, len(f.Code), len(f.Nums))
	}
	agree(t, "all numbers", machine(t, n), machine(t, f), ticks())
}

// Promise 13.1: of code that may not be, Check's errors, with their At, and no code.
func TestWrongCode(t *testing.T) {
	for _, c := range []struct {
		n     api.Net
		err   api.Errno
		place int
	}{
		{api.Net{Places: -1}, api.ErrLimit, -1},
		{api.Net{Places: api.MaxCode + 1, First: make([]int64, api.MaxCode+1)}, api.ErrLimit, -1},
		{api.Net{Nums: make([]int64, api.MaxCode+1)}, api.ErrLimit, -1},
		{api.Net{Code: make([]api.Step, api.MaxCode+1)}, api.ErrLimit, -1},
		{api.Net{Places: 1, First: []int64{0}, Outs: make([]int, api.MaxCode), Keeps: []int{0}}, api.ErrLimit, -1},
		{api.Net{Places: 1}, api.ErrForm, -1},
		{api.Net{First: []int64{1}}, api.ErrForm, -1},
		{api.Net{Ins: []int{0}}, api.ErrRange, -1},
		{api.Net{Outs: []int{0}}, api.ErrRange, -1},
		{api.Net{Keeps: []int{-1}}, api.ErrRange, -1},
		{api.Net{Places: 1, First: []int64{0}, Ins: []int{0, 0}}, api.ErrTwice, -1},
		{of(num(0, 3)), api.ErrRange, 0},
		{of(num(0, 0), api.Step{}), api.ErrForm, 1},
		{of(num(0, 0), api.Step{Code: api.Pre}), api.ErrForm, 1},
		{of(num(0, 0), num(0, 0), neg(0, 10)), api.ErrRange, 2},
		{of(num(0, 0), num(10, 0)), api.ErrRange, 1},
		{of(num(0, 0), api.Step{Code: api.Num, C: 1}), api.ErrArg, 1},
		// It is told, though nobody would ask for that step.
		{of(num(7, 0), pick(0, 1, 2, -1)), api.ErrRange, 1},
	} {
		f, err := Better(c.n)
		if e, place := plain.Place(err); e != c.err || place != c.place {
			t.Errorf("%.200s: %v at %d; want %v at %d", fmt.Sprint(c.n), e, place, c.err, c.place)
		}
		var at *api.At
		if errors.As(err, &at) != (c.place >= 0) {
			t.Errorf("%.200s: an At in %v", fmt.Sprint(c.n), err)
		}
		if !reflect.DeepEqual(f, api.Net{}) {
			t.Errorf("%.200s: %v beside an error", fmt.Sprint(c.n), f)
		}
	}
}

// made is what Make tells of a text that draws a chart that may be, held against 13.1
// but for what its Machine tells.
func made(t *testing.T, text string) (api.Chart, api.Net) {
	t.Helper()
	c, n, err := Make(text)
	if err != nil {
		t.Fatalf("%.300s: %v", text, err)
	}
	drawn, err := parse.Parse(text)
	if err != nil || !reflect.DeepEqual(c, drawn) {
		t.Fatalf("%.300s: %v; want %v", text, c, drawn)
	}
	code, err := emit.Emit(drawn)
	if err != nil {
		t.Fatalf("%.300s: %v", text, err)
	}
	if want := bettered(t, code); !alike(n, want) {
		t.Fatalf("%.300s: %v; want %v", text, n, want)
	}
	return c, n
}

// runner is of a chart that may be.
func runner(t *testing.T, c api.Chart) *run.Runner {
	t.Helper()
	r, err := run.New(c)
	if err != nil {
		t.Fatalf("%s: %v", parse.Print(c), err)
	}
	return r
}

// charts are some that may be.
func charts() []string {
	return []string{
		`chart c { region { initial state s; } }`,
		`chart c { input a; output b; region { initial final state s; } }`,
		`chart c { output b; region { initial state s { during b := b + 1; } } }`,
		`chart c { input a; output b := 3; region { initial state s { during b := a * a + a * a; during b := a * a - b / (a * a); } } }`,
		`chart c { input a; output b; var v := 2; region { initial state s { during v := v + a; during b := pre(v); } } }`,
		`chart c { input a; output b; region { initial state s { entry b := 1 + 1; go immediate if 1 < a --> t; } state t { during b := b * -1; go if count 2 !(1 < a) --> s; } } }`,
		`chart c { input a; output b; output d; region { initial state s { during b := b + a; go if a == 5 --> t; region { initial state u { go if a --> w; } state w { entry d := d + 7; } } } state t { abort if !a --> s history; } } }`,
		`chart c { input a; output b; region { initial state s { join do b := b + 1 --> s; region { initial state u { go if a --> w; } final state w; } } } region { initial state z { suspend a == 5; during b := b * 2; } } }`,
	}
}

// Promise 13.1: the code does what the chart does; it is less than what Emit tells.
func TestMake(t *testing.T) {
	less := 0
	for _, text := range charts() {
		c, n := made(t, text)
		ins := [][]int64{{1}, {0}, {5}, nil, {1}, {1}, {0}, {-2}, {4, 7}, {3}, {5}, {0}, {1}}
		agree(t, text, runner(t, c), machine(t, n), ins)
		code, _ := emit.Emit(c)
		if n.Places > code.Places {
			t.Errorf("%s: %d places became %d", text, code.Places, n.Places)
		}
		if len(n.Code) < len(code.Code) && n.Places < code.Places {
			less++
		}
	}
	if less < 5 {
		t.Errorf("of %d charts the code became less but of %d", len(charts()), less)
	}
}

// The document's example: the chart tells 0, 1, 2, ..
func TestExample(t *testing.T) {
	_, n := made(t, `chart c { output b; region { initial state s { during b := b + 1; } } }`)
	m := machine(t, n)
	for want := range int64(5) {
		if got := m.Tick(nil); !slices.Equal(got, []int64{want}) {
			t.Errorf("%v; want %d", got, want)
		}
	}
}

// long is a chart of six levels, of which there is the more code the longer a sum is.
func long(many int) string {
	s := "exit x := a" + strings.Repeat("+a", many-1) + ";"
	for range api.MaxDepth {
		s = "region { initial state s { go immediate if a --> t; abort if b --> s; " + s + " } state t { go --> s; } }"
	}
	return "chart c { input a; input b; output x; " + s + " }"
}

// Promise 13.1: Parse's errors, ahead of Emit's, with their At; beside them neither a
// chart nor code.
func TestWrongText(t *testing.T) {
	in := func(s string) string { return "chart c { input a; output x; region { " + s + " } }" }
	for _, c := range []struct {
		text  string
		err   api.Errno
		place int
	}{
		// Of words and marks.
		{"chart c { region { initial state s { suspend 1 >= 2; } } }", api.ErrForm, 47},
		{"?", api.ErrForm, 0},
		{"\x00", api.ErrForm, 0},
		{"chart c { var v := 1234567890123456789; }", api.ErrLimit, 19},
		{strings.Repeat("; ", api.MaxTokens+1), api.ErrLimit, 2 * api.MaxTokens},
		// Of what a text draws.
		{"", api.ErrForm, 0},
		{"# no chart", api.ErrForm, 10},
		{"chart c { region { initial state s; }", api.ErrForm, 37},
		{"chart c { region { initial state s; } } chart", api.ErrForm, 40},
		{"chart abcdefghijklm { }", api.ErrLimit, 6},
		{in("initial state s { suspend a; suspend a; }"), api.ErrTwice, 75},
		// Of what may be.
		{"chart c { }", api.ErrNone, -1},
		{"chart c { var v; var w; var v; region { initial state s; } }", api.ErrTwice, 2},
		{in(""), api.ErrNone, 0},
		{in("state s;"), api.ErrNone, 0},
		{in("initial state s; initial state t;"), api.ErrFull, 0},
		{in("initial state s; state t; state s;"), api.ErrTwice, 2},
		{in("initial state s; final state t { go --> s; }"), api.ErrState, 1},
		{in("initial state s; state t { go --> u; }"), api.ErrMissing, 1},
		{in("initial state s { during x := y; }"), api.ErrName, 0},
		{in("initial state s { during a := x; }"), api.ErrArg, 0},
		{in("initial state s { go immediate --> t; } state t { go immediate --> s; }"), api.ErrCycle, 0},
		// Of both the first one.
		{"chart c { } }", api.ErrForm, 12},
		{in("initial state s { during x := y; } ;"), api.ErrForm, 73},
		// Of code.
		{long(190), api.ErrLimit, -1},
	} {
		chart, n, err := Make(c.text)
		if e, place := plain.Place(err); e != c.err || place != c.place {
			t.Errorf("%.200s: %v at %d; want %v at %d", c.text, e, place, c.err, c.place)
		}
		var at *api.At
		if errors.As(err, &at) != (c.place >= 0) {
			t.Errorf("%.200s: an At in %v", c.text, err)
		}
		if !reflect.DeepEqual(chart, api.Chart{}) || !reflect.DeepEqual(n, api.Net{}) {
			t.Errorf("%.200s: %v, %v beside an error", c.text, chart, n)
		}
	}
}

// Promise 13.1: what is nearly too much is made.
func TestLong(t *testing.T) {
	few := 0
	for many := 10; many <= 190; many += 20 {
		c, err := parse.Parse(long(many))
		if err != nil {
			t.Fatal(err)
		}
		if _, err := emit.Emit(c); err != nil {
			continue
		}
		few++
		_, n := made(t, long(many))
		ins := [][]int64{{0, 0}, {0, 1}, {3, 0}, {0, 0}, {2, 1}, {0, 2}, {0, 0}, {-4, 4}}
		agree(t, long(many), runner(t, c), machine(t, n), ins)
	}
	if few < 3 {
		t.Errorf("but %d were made", few)
	}
}

// room is a list with something behind its length.
func room[T any](l []T, behind T) []T {
	return append(slices.Clone(l), behind)[: len(l) : len(l)+1]
}

// spoil writes into all of a list, and behind it.
func spoil[T any](l []T, with T) {
	for i := range l[:cap(l)] {
		l[:cap(l)][i] = with
	}
}

// spoilAll does so with all that code has.
func spoilAll(n api.Net) {
	spoil(n.First, 77)
	spoil(n.Nums, 77)
	spoil(n.Ins, 77)
	spoil(n.Outs, 77)
	spoil(n.Keeps, 77)
	spoil(n.Code, api.Step{Code: 77, A: 77})
}

// Rule P4: what Better is handed is not written into, nor behind it; what comes out
// shares nothing with it, nor with what came out ahead.
func TestFreshCode(t *testing.T) {
	build := func() api.Net {
		return api.Net{
			Places: 4, First: room([]int64{1, 2, 3, 4}, 9), Ins: room([]int{1}, 9), Outs: room([]int{0, 2}, 9), Keeps: room([]int{2, 0}, 9),
			Nums: room([]int64{8, 4}, 9), Code: room([]api.Step{add(0, 0, 1), num(3, 0), num(1, 1), add(2, 2, 3)}, api.Step{Code: 9}),
		}
	}
	n := build()
	f := bettered(t, n)
	want := fmt.Sprint(f)
	whole := func(n api.Net) string {
		return fmt.Sprint(n.First[:5], n.Ins[:2], n.Outs[:3], n.Keeps[:3], n.Nums[:3], n.Code[:5])
	}
	if got := whole(n); got != whole(build()) {
		t.Errorf("written into: %s", got)
	}
	spoilAll(n)
	if got := fmt.Sprint(f); got != want {
		t.Errorf("what was handed in is kept: %s; want %s", got, want)
	}
	spoilAll(f)
	f = bettered(t, build())
	if got := fmt.Sprint(f); got != want {
		t.Errorf("what came out is kept: %s; want %s", got, want)
	}
	// No two lists of it share any memory, either.
	outs, nums := slices.Clone(f.Outs), slices.Clone(f.Nums)
	spoil(f.Ins, 66)
	spoil(f.Keeps, 66)
	spoil(f.First, 66)
	if !slices.Equal(f.Outs, outs) || !slices.Equal(f.Nums, nums) {
		t.Errorf("lists are shared: %v; want Outs %v, Nums %v", f, outs, nums)
	}
}

// spoilStates writes into all lists of states, and of what is in them.
func spoilStates(regions [][]api.State) {
	for _, states := range regions {
		for _, s := range states {
			for _, w := range s.Ways {
				spoil(w.Sets, api.Set{Name: "w"})
			}
			spoil(s.Enter, api.Set{Name: "e"})
			spoil(s.During, api.Set{Name: "d"})
			spoil(s.Leave, api.Set{Name: "l"})
			spoil(s.Ways, api.Way{To: "nowhere"})
			spoilStates(s.Regions)
		}
		spoil(states, api.State{Name: "nobody"})
	}
	spoil(regions, nil)
}

// Rule P4: what Make tells is fresh, and the same each time; the chart and the code
// share nothing.
func TestFreshChart(t *testing.T) {
	for _, text := range charts() {
		c, n := made(t, text)
		again, code := made(t, text)
		if !reflect.DeepEqual(c, again) || !reflect.DeepEqual(n, code) {
			t.Fatalf("%s is something else each time", text)
		}
		want := parse.Print(again) + fmt.Sprint(code)
		spoil(c.Vars, api.Declared{Name: "v"})
		spoilStates(c.Regions)
		if !reflect.DeepEqual(n, code) {
			t.Fatalf("%s: the code shares memory with the chart: %v; want %v", text, n, code)
		}
		spoilAll(n)
		if got := parse.Print(again) + fmt.Sprint(code); got != want {
			t.Fatalf("%s shares memory from call to call: %s; want %s", text, got, want)
		}
		made(t, text)
	}
}
