package emit

import (
	"errors"
	"fmt"
	"math/rand"
	"reflect"
	"slices"
	"strings"
	"testing"

	"clepsydra/api"
	"clepsydra/check"
	"clepsydra/net"
	"clepsydra/parse"
	"clepsydra/run"
)

// draw is what a text draws, which must be something.
func draw(t *testing.T, s string) api.Chart {
	t.Helper()
	c, err := parse.Parse(s)
	if err != nil {
		t.Fatalf("%q draws nothing: %v", s, err)
	}
	return c
}

// emitted is a chart's code, which must be there, may be, and has the inputs
// and outputs of the chart.
func emitted(t *testing.T, c api.Chart) api.Net {
	t.Helper()
	n, err := Emit(c)
	if err != nil {
		t.Fatalf("%s\nis no code: %v", parse.Print(c), err)
	}
	if err := net.Check(n); err != nil {
		t.Fatalf("%s\nis wrong code: %v", parse.Print(c), err)
	}
	many := map[int]int{}
	for _, v := range c.Vars {
		many[v.Kind]++
	}
	if len(n.Ins) != many[api.In] || len(n.Outs) != many[api.Out] {
		t.Fatalf("%s\nhas %d inputs, %d outputs", parse.Print(c), len(n.Ins), len(n.Outs))
	}
	return n
}

// machine is a new one of a chart's code.
func machine(t *testing.T, c api.Chart) *net.Machine {
	t.Helper()
	m, err := net.New(emitted(t, c))
	if err != nil {
		t.Fatal(err)
	}
	return m
}

// same fails the test unless a chart's code tells in some ticks what the chart
// tells, of things drawn by lot.
func same(t *testing.T, d *lot, c api.Chart, ticks int) bool {
	t.Helper()
	m := machine(t, c)
	r, err := run.New(c)
	if err != nil {
		t.Fatal(err)
	}
	log := ""
	for range ticks {
		ins := d.told()
		want, got := r.Tick(ins), m.Tick(ins)
		log += fmt.Sprint(ins, want, "\n")
		if !slices.Equal(got, want) {
			t.Errorf("%s%stells %v", parse.Print(c), log, got)
			return false
		}
	}
	return true
}

// tells fails the test unless a chart's code tells these, tick by tick.
func tells(t *testing.T, s string, ins, want [][]int64) {
	t.Helper()
	m := machine(t, draw(t, s))
	for i := range ins {
		if got := m.Tick(ins[i]); !slices.Equal(got, want[i]) {
			t.Errorf("%s: tick %d (%v): %v; want %v", s, i, ins[i], got, want[i])
		}
	}
}

// The document's example (5), as code.
func TestExample(t *testing.T) {
	m := machine(t, draw(t, "chart c { output b; region { initial state s { during b := b + 1; } } }"))
	for i := range int64(50) {
		if got := m.Tick(nil); !slices.Equal(got, []int64{i}) {
			t.Fatalf("tick %d: %v", i, got)
		}
	}
}

// Promise 7.1: inputs and outputs in their order, whatever stands between
// them; what variables are at first, and were.
func TestInsAndOuts(t *testing.T) {
	tells(t, "chart c { output y := 7; input a := 4; var v; output x; input b := 5; output p; output q := -3; region { initial state s { entry p := pre(a) * 10 + pre(b); during v := a, x := b, y := v, p := pre(y), q := pre(b); } } }",
		[][]int64{{1, 2}, {3, 4, 5}, {6}, nil},
		[][]int64{{7, 0, 45, -3}, {3, 4, 7, 2}, {6, 0, 3, 4}, {0, 0, 6, 0}})
	tells(t, "chart c { region { initial state s; } }", [][]int64{nil, {1}}, [][]int64{nil, nil})
	tells(t, "chart c { input a; region { initial state s; } }", [][]int64{nil, {1}}, [][]int64{nil, nil})
	tells(t, "chart c { output x := -8; region { initial state s; } }", [][]int64{nil, {1}}, [][]int64{{-8}, {-8}})
}

// Promise 7.1: the README's lamp, by hand.
func TestByHand(t *testing.T) {
	tells(t, "chart lamp { input b; output on; region { initial state dark { entry on := 0; go if b --> lit; } state lit { entry on := 1; go if count 2 !b --> dark; } } }",
		[][]int64{nil, {1}, {0}, {1}, {0}, {0}, {-4}},
		[][]int64{{0}, {1}, {1}, {1}, {0}, {0}, {1}})
	// What goes back counts anew, and comes to what was.
	tells(t, "chart c { input a; output x; region { initial state s { go if a == 2 --> u; region { initial state p { entry x := 1; go if a --> q; } state q { entry x := 2; exit x := x * 10; go if count 2 a == 1 --> p; } } } state u { go if a --> s history; } } }",
		[][]int64{{0}, {1}, {1}, {2}, {1}, {1}, {1}},
		[][]int64{{1}, {2}, {2}, {20}, {2}, {2}, {1}})
}

// Promise 7.1: Check's errors, with their places, and no code.
func TestWrongChart(t *testing.T) {
	in := func(region string) string {
		return "chart c { input a; output x; region { " + region + " } }"
	}
	for _, s := range []string{
		"chart c { }",
		"chart c { var a; var b; var a; region { initial state s; } }",
		"chart c { region { } }",
		"chart c { region { state s; } }",
		in("initial state s; initial state p;"),
		in("initial state s; state s;"),
		in("initial state s; final state p { go --> s; }"),
		in("initial state s { entry z := 1; }"),
		in("initial state s { exit x := z; }"),
		in("initial state s; state p { during a := 1; }"),
		in("initial state s { go --> p; }"),
		in("initial state s { join --> s; }"),
		in("initial state s { go immediate if count 2 a --> p; } state p;"),
		in("initial state s { go immediate --> p; } state p { abort immediate --> s; }"),
		in("initial state s { region { initial state p; } region { initial state p; state q { suspend pre(z); } } }"),
	} {
		c := draw(t, s)
		want := check.Check(c)
		n, err := Emit(c)
		if want == nil || !reflect.DeepEqual(err, want) || !reflect.DeepEqual(n, api.Net{}) {
			t.Errorf("%s: %v, %v; want no code, and %v", s, n, err, want)
		}
		var at *api.At
		if (s != "chart c { }") != errors.As(err, &at) {
			t.Errorf("%s: an At is missing, or is there", s)
		}
	}
	if n, err := Emit(api.Chart{}); err != error(api.ErrNone) || !reflect.DeepEqual(n, api.Net{}) {
		t.Errorf("of no chart: %v, %v", n, err)
	}
}

// logged writes each mark of a text, as !5, as the set that logs it.
func logged(s string) string {
	for i := 1; i <= 9; i++ {
		s = strings.ReplaceAll(s, fmt.Sprint("!", i), fmt.Sprint("t := t * 10 + ", i))
	}
	return s
}

// edges are regions in each of which a sentence of chapter 5 matters.
func edges() []string {
	deep := "region { initial state p { entry !1; exit !2; go if a == 1 --> q; } state q { entry !3; exit !4; region { initial state m { exit !5; go if a == 2 --> n; } state n { entry !6; exit !7; go if a == 1 --> m; } } } }"
	two := "region { initial state p { go if a == 1 --> f; } final state f { during !1; exit !2; } } region { initial state q { go if a == 2 --> g; } state h { go if a == 1 --> k; } final state g; final state k; }"
	return []string{
		// Sets one by one, and what was.
		"initial state s { during x := v, v := x + a; during v := v + pre(v), x := pre(x) - pre(a); }",
		// 5.2: Enter, then strong ways at once, what is inside, other ways at once.
		"initial state s { entry !1; exit !2; go --> p; } state p { entry !3; exit !4; abort immediate if a do !5 --> q; go immediate if b do !6 --> q; region { initial state m { entry !7; exit !8; } } go if a --> s; } state q { entry !9; go if !a --> s; abort if b --> p; }",
		// Chains of ways at once, also back in the order of the text; the first tick's, too.
		"state p { entry !1; go if a --> s; } state q { entry !2; exit !3; go immediate if b --> p; go if a == 2 --> s; } initial state s { entry !4; exit !5; go immediate if a do !6 --> q; abort immediate if b --> p; }",
		// Many ways lead to one state, and from one to many.
		"initial state s { go if a == 1 do !1 --> p; go if a == 2 do !2 --> q; go if a == 3 do !3 --> p; go do !4 --> q; go do !9 --> s; } state p { go if b do !5 --> q; abort if a do !6 --> s; } state q { go if b do !7 --> p; abort if a do !8 --> s; }",
		// A way that is always open: nothing stands behind it.
		"initial state s { abort do !1 --> p; abort do !2 --> s; during !3; region { initial state m { during !4; exit !5; } } go --> s; } state p { during !6; go --> s; go do !7 --> p; }",
		"initial state s { abort if a --> p; abort do !1 --> s; go do !2 --> p; during !3; region { initial state m { entry !4; exit !5; } } } state p { go if a == 2 --> s; }",
		// Back: from ways, all the way down, to what was, or where nothing was.
		"initial state s { " + deep + " go if a == 3 --> u; } state u { go if b == 1 --> s; go if b == 2 --> s history; }",
		"initial state u { go if b == 1 --> s; go if b == 2 --> s history; go if b == 3 --> w; } state w { go immediate --> s history; } state s { " + deep + " go if a == 3 --> u; }",
		"initial state s { " + deep + " go if b == 1 --> s; go if b == 2 --> s history; abort if b == 3 --> s history; }",
		"initial state o { region { initial state s { " + deep + " go if a == 3 --> u; } state u { go if b --> s history; go if a == 3 --> s; } } go if b == 3 --> z; } state z { go if b == 2 --> o history; go if b == 1 --> o; }",
		// Who was entered, and left ahead of what is inside, leaves what was as it was.
		"initial state s { abort immediate if b do !8 --> w; " + deep + " go if a == 3 --> u; } state u { go --> s; } state w { go if a --> s history; go --> s; }",
		// 5.3: who rests takes strong ways alone.
		"initial state s { entry !1; suspend a; during !2; go if b == 1 --> u; abort if b == 2 --> u; abort if b == 3 --> s; region { initial state p { during !3; exit !4; abort if b == 3 --> q; } state q { suspend b - 1; during !5; } } } state u { go --> s; suspend a == -1; }",
		// 5.4: who joins waits for all that is inside; of no last state for ever.
		"initial state s { join do !3 --> u; " + two + " } state u { go if b --> s history; go --> s; }",
		"initial state s { join immediate if b do !3 --> u; go if a == 3 --> s; " + two + " } state u { go if b --> s history; go --> s; }",
		"initial state s { join if count 2 b do !3 --> u; join if a == -1 do !4 --> s; " + two + " } state u { go if b --> s; }",
		"initial state s { join do !3 --> u; join if a do !4 --> u; go if b do !5 --> u; region { initial state p; state q { go --> p; } } } state u { go --> s; }",
		"initial state s { join immediate do !3 --> u; region { initial final state f { entry !1; exit !2; } } } state u { go if a --> s; }",
		// Counting: strong, weak, one ahead of another, anew when entered, also to itself.
		"initial state s { go if count 3 a do !1 --> p; go if count 2 a do !2 --> q; go if b == 2 --> s; suspend b == 3; } state p { abort if count 2 b do !3 --> q; abort if count 2 a do !4 --> s; } state q { go if count 2 1 do !5 --> s; }",
		"initial state s { go if b == 2 --> u; region { initial state m { go if count 2 a --> n; abort if count 3 b do !1 --> m; } state n { go if count 1000 1 do !2 --> m; go if a --> m; } } } state u { go --> s history; }",
		// Left: what is inside first, each region.
		"initial state s { exit !4; go if a do !5, !6 --> u; abort if b do !7 --> u; region { initial state p { exit !2; go if b --> p; region { initial state m { exit !1; go if a == 2 --> m; } } } } region { initial state q { exit !3; } } } state u { entry !8; go if !a --> s; }",
		// Numbers that are neither 0 nor 1.
		"initial state s { go if -a --> p; suspend -b; during x := a / b, v := a % b, x := x - (a < b) * (a <= b), v := !v || a && b; } state p { go if a * b --> s; go if count 2 a - b do !1 --> s; region { initial state q { suspend a - 2; during !2; } } }",
	}
}

// Promise 7.1: the code does what each of these charts does.
func TestEdges(t *testing.T) {
	d := &lot{Rand: rand.New(rand.NewSource(71))}
	for _, s := range edges() {
		c := draw(t, "chart c { input a; input b; output t; output x; var v; region { "+logged(s)+" } }")
		for range 150 {
			if !same(t, d, c, 25) {
				break
			}
		}
	}
}

// Promise 7.1: region by region, those side by side, and each sees what the
// one ahead of it did.
func TestSideBySide(t *testing.T) {
	d := &lot{Rand: rand.New(rand.NewSource(72))}
	all := edges()
	for i, s := range all {
		other := all[(i+5)%len(all)]
		c := draw(t, "chart c { input a; input b; output t; output x; var v; region { "+logged(s)+" } region { "+logged(other)+" } }")
		for range 100 {
			if !same(t, d, c, 25) {
				break
			}
		}
	}
}

// Rule P4: what is handed in is not written into, what comes out is fresh, and
// the same each time.
func TestFresh(t *testing.T) {
	d := &lot{Rand: rand.New(rand.NewSource(73))}
	for range 300 {
		c, ok := d.parsed(3)
		if !ok {
			continue
		}
		before := parse.Print(c)
		n := emitted(t, c)
		again := emitted(t, c)
		if parse.Print(c) != before {
			t.Fatalf("%s is written into", before)
		}
		if !reflect.DeepEqual(n, again) {
			t.Fatalf("%s is other code each time", before)
		}
		spoil(n)
		if reflect.DeepEqual(n, again) || !reflect.DeepEqual(emitted(t, c), again) {
			t.Fatalf("%s: code shares memory", before)
		}
	}
}

// spoil writes something else into each list of code, up to what stands behind
// their length.
func spoil(n api.Net) {
	for i := range n.First {
		n.First[i] = 99
	}
	for i := range n.Nums {
		n.Nums[i] = 98
	}
	for i, l := range [][]int{n.Ins, n.Outs, n.Keeps} {
		l = l[:cap(l)]
		for j := range l {
			l[j] = -i - 1
		}
	}
	for i := range n.Code {
		n.Code[i] = api.Step{}
	}
}

// Rule P4: no two lists of code share memory.
func TestNoTwoShare(t *testing.T) {
	n := emitted(t, draw(t, "chart c { input a; input b; output x; output y; region { initial state s { during x := a + pre(b), y := 7; } } }"))
	spoil(n)
	for i, l := range [][]int{n.Ins, n.Outs, n.Keeps} {
		for _, p := range l {
			if p != -i-1 {
				t.Errorf("list %d shares memory: %v", i, l)
			}
		}
	}
	for _, x := range n.First {
		if x != 99 {
			t.Errorf("First shares memory: %v", n.First)
		}
	}
}
