package net

import (
	"fmt"
	"math"
	"slices"
	"testing"

	"clepsydra/api"
)

// start is a Machine of code that may be.
func start(t *testing.T, n api.Net) *Machine {
	t.Helper()
	m, err := New(n)
	if err != nil || m == nil {
		t.Fatalf("%.300s does not run: %v", fmt.Sprint(n), err)
	}
	return m
}

// tells fails the test unless a new Machine tells these, tick by tick.
func tells(t *testing.T, n api.Net, ins, want [][]int64) {
	t.Helper()
	m := start(t, n)
	for i := range ins {
		if got := m.Tick(ins[i]); !slices.Equal(got, want[i]) {
			t.Errorf("%.300s: tick %d (%v): %v; want %v", fmt.Sprint(n), i, ins[i], got, want[i])
		}
	}
}

// Promise 6.2: what each code makes of what it asks.
func TestMade(t *testing.T) {
	const least, most = math.MinInt64, math.MaxInt64
	for _, c := range []struct {
		code          int
		a, b, c, want int64
	}{
		{api.Var, 7, 0, 0, 7}, {api.Var, least, 0, 0, least},
		{api.Neg, 7, 0, 0, -7}, {api.Neg, least, 0, 0, least},
		{api.Not, 0, 0, 0, 1}, {api.Not, -3, 0, 0, 0},
		{api.Add, 7, -9, 0, -2}, {api.Add, most, 1, 0, least},
		{api.Sub, 7, 9, 0, -2}, {api.Sub, least, 1, 0, most},
		{api.Mul, -7, 9, 0, -63}, {api.Mul, most, 2, 0, -2},
		{api.Div, -7, 2, 0, -3}, {api.Div, 7, 0, 0, 0}, {api.Div, least, -1, 0, least},
		{api.Mod, -7, 2, 0, -1}, {api.Mod, 7, 0, 0, 0}, {api.Mod, least, -1, 0, 0},
		{api.Eq, 7, 7, 0, 1}, {api.Eq, 7, 8, 0, 0},
		{api.Ne, 7, 7, 0, 0}, {api.Ne, 7, 8, 0, 1},
		{api.Lt, 7, 8, 0, 1}, {api.Lt, 7, 7, 0, 0}, {api.Lt, 8, 7, 0, 0},
		{api.Le, 7, 8, 0, 1}, {api.Le, 7, 7, 0, 1}, {api.Le, 8, 7, 0, 0},
		{api.And, 7, -8, 0, 1}, {api.And, 0, 8, 0, 0}, {api.And, 7, 0, 0, 0},
		{api.Or, 0, -8, 0, 1}, {api.Or, 7, 0, 0, 1}, {api.Or, 0, 0, 0, 0},
		{api.Pick, -1, 8, 9, 8}, {api.Pick, 0, 8, 9, 9},
	} {
		s := api.Step{Code: c.code, Dst: 3}
		for i, at := range []*int{&s.A, &s.B, &s.C}[:len(Asks(s))] {
			*at = i
		}
		n := api.Net{Places: 4, First: []int64{0, 0, 0, 66}, Ins: []int{0, 1, 2}, Outs: []int{3}, Code: []api.Step{s}}
		tells(t, n, [][]int64{{c.a, c.b, c.c}}, [][]int64{{c.want}})
	}
}

// Promise 6.2: Num makes the number of Nums, and asks no place.
func TestNumbers(t *testing.T) {
	n := api.Net{Places: 2, First: []int64{50, 60}, Outs: []int{1}, Nums: []int64{math.MinInt64, 8, -9}}
	for a, want := range n.Nums {
		n.Code = []api.Step{{Code: api.Num, Dst: 1, A: a}}
		tells(t, n, [][]int64{nil, nil}, [][]int64{{want}, {want}})
	}
}

// Promise 6.2: a step may put something at what it asks, and at what others
// asked ahead of it; those behind it ask what is there then.
func TestStepByStep(t *testing.T) {
	n := of(2,
		api.Step{Code: api.Num, Dst: 1, A: 2},       // 1: -5
		api.Step{Code: api.Add, Dst: 0, B: 1},       // 0: a - 5
		api.Step{Code: api.Mul, Dst: 0},             // 0: its square
		api.Step{Code: api.Var, Dst: 1},             // 1: the same
		api.Step{Code: api.Neg, Dst: 0},             // 0: less than 0
		api.Step{Code: api.Pick, Dst: 1, B: 1},      // 1, unless 0 is 0
		api.Step{Code: api.Sub, Dst: 0, A: 1, B: 0}) // 0: twice the square
	n.Ins, n.Outs = []int{0}, []int{1, 0}
	tells(t, n, [][]int64{{7}, {5}, nil, {0}}, [][]int64{{4, 8}, {0, 0}, {25, 50}, {25, 50}})
}

// Promise 6.2: in the first tick all places are First, but for Ins; later what
// is not of Keeps is 0.
func TestKeeps(t *testing.T) {
	n := api.Net{Places: 4, First: []int64{1, 2, 3, 4}, Outs: []int{0, 1, 2, 3}}
	none := [][]int64{nil, nil, nil}
	tells(t, n, none, [][]int64{{1, 2, 3, 4}, {0, 0, 0, 0}, {0, 0, 0, 0}})
	n.Keeps = []int{3, 1}
	tells(t, n, none, [][]int64{{1, 2, 3, 4}, {0, 2, 0, 4}, {0, 2, 0, 4}})
	n.Keeps = []int{1, 3, 1, 1, 0, 2}
	tells(t, n, none, [][]int64{{1, 2, 3, 4}, {1, 2, 3, 4}, {1, 2, 3, 4}})
	// What a step put there is kept, and no longer First.
	n.Keeps, n.Code = []int{2}, []api.Step{{Code: api.Add, Dst: 2, A: 2, B: 3}, {Code: api.Not, Dst: 3, A: 0}}
	tells(t, n, none, [][]int64{{1, 2, 7, 0}, {0, 0, 7, 1}, {0, 0, 7, 1}})
}

// The document's chart that counts (5), as code.
func TestCounts(t *testing.T) {
	n := api.Net{Places: 2, First: []int64{-1, 0}, Outs: []int{0}, Keeps: []int{0}, Nums: []int64{1}, Code: []api.Step{
		{Code: api.Num, Dst: 1}, {Code: api.Add, A: 0, B: 1},
	}}
	m := start(t, n)
	for i := range int64(50) {
		if got := m.Tick(nil); !slices.Equal(got, []int64{i}) {
			t.Fatalf("tick %d: %v", i, got)
		}
	}
}

// Promise 6.2: Ins are told in their order; what is missing is 0, also where
// First, or what is kept, is something else; what is told beyond is nothing.
func TestInputs(t *testing.T) {
	n := api.Net{Places: 3, First: []int64{7, 8, 9}, Ins: []int{2, 0}, Outs: []int{0, 1, 2}, Keeps: []int{0, 1, 2}}
	tells(t, n,
		[][]int64{{1, 2}, {3}, nil, {4, 5, 6, 7}, {}},
		[][]int64{{2, 8, 1}, {0, 8, 3}, {0, 8, 0}, {5, 8, 4}, {0, 8, 0}})
	tells(t, n, [][]int64{nil}, [][]int64{{0, 8, 0}})
	n.Ins = nil
	tells(t, n, [][]int64{{1, 2, 3}}, [][]int64{{7, 8, 9}})
}

// Promise 6.2: Outs are told in their order, twice, too, ahead of what is
// forgotten, and also where they are Ins.
func TestOutputs(t *testing.T) {
	n := api.Net{Places: 3, First: []int64{7, 8, 9}, Ins: []int{1}, Outs: []int{2, 0, 2, 1}}
	tells(t, n, [][]int64{{5}, {6}}, [][]int64{{9, 7, 9, 5}, {0, 0, 0, 6}})
	n.Outs = nil
	tells(t, n, [][]int64{{5}, {6}}, [][]int64{nil, nil})
	tells(t, api.Net{}, [][]int64{nil, {1}}, [][]int64{nil, nil})
}

// Rule P4: what is told is fresh, what is handed in is neither written into nor
// kept, and Machines of one code have nothing to do with each other.
func TestMachinesApart(t *testing.T) {
	n := api.Net{Places: 2, First: []int64{3, 0}, Ins: []int{1}, Outs: []int{0}, Keeps: []int{0}, Code: []api.Step{{Code: api.Add, A: 0, B: 1}}}
	one, two := start(t, n), start(t, n)
	ins := []int64{10, 20, 30}
	told := one.Tick(ins[:1])
	if !slices.Equal(ins, []int64{10, 20, 30}) {
		t.Errorf("inputs were written into: %v", ins)
	}
	told[0], ins[0] = 99, 99
	for _, c := range []struct {
		m    *Machine
		in   int64
		want int64
	}{{one, 1, 14}, {two, 5, 8}, {one, 2, 16}, {start(t, n), 0, 3}, {two, 0, 8}} {
		if got := c.m.Tick([]int64{c.in}); !slices.Equal(got, []int64{c.want}) {
			t.Errorf("%v; want %d", got, c.want)
		}
	}
}

// Promise 6.2, at the bounds of 6.1: as much code as may be.
func TestMuch(t *testing.T) {
	const most = api.MaxCode
	n := of(most)
	n.Ins, n.Outs, n.Keeps = []int{0}, []int{most - 1}, rising(most-2)
	for i := range most - 1 {
		n.Code = append(n.Code, api.Step{Code: api.Add, Dst: i + 1, A: i, B: i + 1})
	}
	n.Code = append(n.Code, api.Step{Code: api.Var, Dst: 0, A: most - 1})
	// In the second tick those from 1 to most - 3 are kept, each 1, and summed.
	tells(t, n, [][]int64{{1}, {0}}, [][]int64{{1}, {most - 3}})
}

// Rule P1: no call panics: of the Machine that comes with an error, of one that
// New did not make, and of one whose code was written into behind New.
func TestNoPanic(t *testing.T) {
	none, _ := New(api.Net{Places: -1})
	for _, m := range []*Machine{none, new(Machine)} {
		if got := m.Tick([]int64{1}); len(got) > 0 {
			t.Errorf("%v of no code", got)
		}
	}
	for _, wrong := range []int{-1, 3, math.MinInt, math.MaxInt} {
		for code := range codes() {
			n := of(3, api.Step{Code: code}, api.Step{Code: api.Num, Dst: 2, A: 1})
			n.Ins, n.Outs, n.Keeps = []int{0}, []int{1, 2}, []int{1}
			m := start(t, n)
			n.Code[0] = api.Step{Code: code, Dst: wrong, A: wrong, B: wrong, C: wrong}
			n.Ins[0], n.Outs[0], n.Keeps[0] = wrong, wrong, wrong
			for range 2 {
				if got := fmt.Sprint(m.Tick([]int64{4})); got != "[0 1]" {
					t.Errorf("code %d, %d: %s", code, wrong, got)
				}
			}
		}
	}
}
