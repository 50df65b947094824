package net

import (
	"errors"
	"fmt"
	"math"
	"reflect"
	"slices"
	"testing"

	"clepsydra/api"
)

// codes are all that a step may have, with how many places each one asks.
func codes() map[int]int {
	l := map[int]int{api.Num: 0, api.Var: 1, api.Neg: 1, api.Not: 1, api.Pick: 3}
	for code := api.Add; code <= api.Or; code++ {
		l[code] = 2
	}
	return l
}

// noCodes are some that no step may have.
var noCodes = []int{api.Pre, 0, -1, api.Pick + 1, api.Pick + 2, 255, 256 + api.Add, math.MaxInt, math.MinInt}

// of is code of so many places, with these steps, and three numbers.
func of(places int, steps ...api.Step) api.Net {
	return api.Net{Places: places, First: make([]int64, places), Nums: []int64{0, 1, -5}, Code: steps}
}

// is fails the test unless an error is this one: at a place, or, if that is
// -1, without any At.
func is(t *testing.T, what any, err error, want api.Errno, place int) {
	t.Helper()
	got := -1
	var at *api.At
	if errors.As(err, &at) {
		got = at.Place
	}
	if api.Tell(err) != want || got != place || at != nil && at.Err != want || want == api.OK && err != nil {
		t.Errorf("%v: %v at %d; want %v at %d", what, err, got, want, place)
	}
}

// both asks Check, and New, which tells the same, and no Machine with it.
func both(t *testing.T, what any, n api.Net, want api.Errno, place int) {
	t.Helper()
	is(t, what, Check(n), want, place)
	m, err := New(n)
	is(t, fmt.Sprint("New: ", what), err, want, place)
	if (m == nil) != (err != nil) {
		t.Errorf("%v: a Machine %v, beside %v", what, m, err)
	}
}

// Promise 6.1: what steps ask.
func TestAsks(t *testing.T) {
	for code, many := range codes() {
		for _, s := range []api.Step{
			{Code: code, Dst: 9, A: 1, B: 2, C: 3},
			{Code: code, Dst: 1, A: 1, B: 1, C: 1},
			{Code: code},
			{Code: code, Dst: -1, A: -7, B: math.MaxInt, C: math.MinInt},
		} {
			want := []int{s.A, s.B, s.C}[:many]
			if got := Asks(s); !slices.Equal(got, want) {
				t.Errorf("%v asks %v; want %v", s, got, want)
			}
		}
	}
	for _, code := range noCodes {
		if got := Asks(api.Step{Code: code, Dst: 9, A: 1, B: 2, C: 3}); len(got) > 0 {
			t.Errorf("code %d asks %v", code, got)
		}
	}
}

// Promise 6.1: code that may be.
func TestMayBe(t *testing.T) {
	both(t, "nothing", api.Net{}, api.OK, -1)
	both(t, "empty lists", api.Net{First: []int64{}, Ins: []int{}, Outs: []int{}, Keeps: []int{}, Nums: []int64{}, Code: []api.Step{}}, api.OK, -1)
	for code, many := range codes() {
		s := []int{2, 1, 0}
		copy(s[many:], []int{0, 0, 0})
		both(t, code, of(3, api.Step{Code: code, Dst: 2, A: s[0], B: s[1], C: s[2]}), api.OK, -1)
	}
	n := of(3)
	n.Ins, n.Outs, n.Keeps = []int{2, 0, 1}, []int{1, 1, 2, 1}, []int{0, 0, 2, 0}
	both(t, "only inputs must be apart", n, api.OK, -1)
	both(t, "a number's place beyond the places", of(1, api.Step{Code: api.Num, A: 2}), api.OK, -1)
}

// Promise 6.1: how much there may be, of each.
func TestLimit(t *testing.T) {
	const most = api.MaxCode
	grow := map[string]func(n *api.Net, many int){
		"places": func(n *api.Net, many int) { n.Places, n.First = many, make([]int64, many) },
		"steps":  func(n *api.Net, many int) { n.Code = slices.Repeat([]api.Step{{Code: api.Var}}, many) },
		"nums":   func(n *api.Net, many int) { n.Nums = make([]int64, many) },
		"ins":    func(n *api.Net, many int) { n.Ins = rising(many) },
		"outs":   func(n *api.Net, many int) { n.Outs = make([]int, many) },
		"keeps":  func(n *api.Net, many int) { n.Keeps = make([]int, many) },
		"together": func(n *api.Net, many int) {
			n.Ins, n.Outs, n.Keeps = rising(most/4), make([]int, most/2), make([]int, many-most/4-most/2)
		},
	}
	for what, g := range grow {
		n := of(most)
		g(&n, most)
		both(t, what+", as many as may be", n, api.OK, -1)
		g(&n, most+1)
		both(t, what+", one more", n, api.ErrLimit, -1)
	}
	// Each of them at once: they are not counted together.
	n := of(most)
	for _, what := range []string{"steps", "nums", "together"} {
		grow[what](&n, most)
	}
	both(t, "all, as many as may be", n, api.OK, -1)
	for _, places := range []int{-1, -2, math.MinInt, most + 1, math.MaxInt} {
		both(t, fmt.Sprint(places, " places"), api.Net{Places: places}, api.ErrLimit, -1)
	}
}

// rising are so many places from 0 on.
func rising(many int) []int {
	l := make([]int, many)
	for i := range l {
		l[i] = i
	}
	return l
}

// Promise 6.1: First has Places numbers.
func TestFirst(t *testing.T) {
	for places := range 4 {
		for firsts := range 5 {
			want := api.ErrForm
			if places == firsts {
				want = api.OK
			}
			both(t, fmt.Sprint(places, firsts), api.Net{Places: places, First: make([]int64, firsts, 9)}, want, -1)
		}
	}
	both(t, "more numbers than there may be places", api.Net{First: make([]int64, api.MaxCode+1)}, api.ErrForm, -1)
}

// Promise 6.1: Ins, Outs, Keeps are places.
func TestPlaces(t *testing.T) {
	lists := map[string]func(n *api.Net) *[]int{
		"ins":   func(n *api.Net) *[]int { return &n.Ins },
		"outs":  func(n *api.Net) *[]int { return &n.Outs },
		"keeps": func(n *api.Net) *[]int { return &n.Keeps },
	}
	for what, list := range lists {
		for _, places := range []int{0, 1, 3} {
			for _, wrong := range []int{-1, places, places + 1, math.MinInt, math.MaxInt} {
				n := of(places)
				*list(&n) = append(rising(places), wrong)
				both(t, fmt.Sprint(what, places, wrong), n, api.ErrRange, -1)
				*list(&n) = append([]int{wrong}, rising(places)...)
				both(t, fmt.Sprint(what, wrong, places), n, api.ErrRange, -1)
			}
			n := of(places)
			*list(&n) = rising(places)
			both(t, fmt.Sprint(what, places), n, api.OK, -1)
		}
	}
}

// Promise 6.1: two Ins are one.
func TestTwice(t *testing.T) {
	for _, ins := range [][]int{{0, 0}, {2, 2}, {0, 1, 0}, {2, 1, 0, 2}, {1, 2, 1, 2}, {0, 0, 0}, {0, 1, 2, 1}} {
		n := of(3)
		n.Ins = ins
		both(t, ins, n, api.ErrTwice, -1)
	}
}

// Promise 6.1: no code; whatever else is wrong with the step.
func TestNoCode(t *testing.T) {
	for _, code := range noCodes {
		for _, s := range []api.Step{{Code: code}, {Code: code, A: 1, B: 1, C: 1}, {Code: code, Dst: -1, A: 9}} {
			both(t, s, of(2, s), api.ErrForm, 0)
			both(t, s, of(2, api.Step{Code: api.Var}, s, s), api.ErrForm, 1)
		}
	}
}

// Promise 6.1: what is no place, or none of Nums, in each field that matters.
func TestRange(t *testing.T) {
	for code, many := range codes() {
		for field := range many + 1 {
			for _, wrong := range []int{-1, 3, 4, math.MinInt, math.MaxInt} {
				s := api.Step{Code: code}
				*[]*int{&s.Dst, &s.A, &s.B, &s.C}[field] = wrong
				both(t, s, of(3, api.Step{Code: api.Not}, api.Step{Code: api.Num}, s), api.ErrRange, 2)
			}
		}
	}
	for nums := range 4 {
		for _, a := range []int{-1, 0, 1, 2, 3, 4, math.MinInt, math.MaxInt} {
			n := of(9, api.Step{Code: api.Num, A: a})
			n.Nums = make([]int64, nums, 9)
			want, place := api.ErrRange, 0
			if a >= 0 && a < nums {
				want, place = api.OK, -1
			}
			both(t, fmt.Sprint(nums, " numbers, ", a), n, want, place)
		}
	}
	both(t, "no places", of(0, api.Step{Code: api.Num}), api.ErrRange, 0)
}

// Promise 6.1: what is not asked is 0.
func TestUnasked(t *testing.T) {
	for code, many := range codes() {
		if code == api.Num {
			many = 1
		}
		for field := many; field < 3; field++ {
			for _, wrong := range []int{1, 2, -1, 3, math.MinInt, math.MaxInt} {
				s := api.Step{Code: code, Dst: 2}
				*[]*int{&s.A, &s.B, &s.C}[field] = wrong
				both(t, s, of(3, s), api.ErrArg, 0)
				both(t, s, of(3, api.Step{Code: api.Num, A: 1}, s), api.ErrArg, 1)
			}
		}
	}
	// The same place in a field that is not asked is not asked.
	both(t, "neg", of(3, api.Step{Code: api.Neg, A: 1, B: 1}), api.ErrArg, 0)
	both(t, "add", of(3, api.Step{Code: api.Add, A: 1, B: 2, C: 1}), api.ErrArg, 0)
}

// Promise 6.1, and rule P3: of several faults the one that is told first; each
// of these is wrong with all that stands behind it, too.
func TestFirstFault(t *testing.T) {
	faults := []struct {
		spoil func(n *api.Net)
		want  api.Errno
	}{
		{func(n *api.Net) { n.Nums = make([]int64, api.MaxCode+1) }, api.ErrLimit},
		{func(n *api.Net) { n.First = n.First[1:] }, api.ErrForm},
		{func(n *api.Net) { n.Keeps = []int{9} }, api.ErrRange},
		{func(n *api.Net) { n.Ins = []int{1, 0, 1} }, api.ErrTwice},
	}
	for i, f := range faults {
		n := of(2, api.Step{})
		for _, g := range faults[i:] {
			g.spoil(&n)
		}
		both(t, i, n, f.want, -1)
	}
	n := of(2)
	n.Ins, n.Outs = []int{0, 0}, []int{2}
	both(t, "a range behind a twice", n, api.ErrRange, -1)
}

// Promise 6.1, and rule P3: of one step what is told first, and of several
// steps the first one's, whatever it is.
func TestFirstStep(t *testing.T) {
	steps := []struct {
		s    api.Step
		want api.Errno
	}{
		{api.Step{Code: api.Pre, Dst: 7, C: 1}, api.ErrForm},
		{api.Step{Code: api.Var, Dst: 7, B: 1}, api.ErrRange},
		{api.Step{Code: api.Add, A: 7, C: 1}, api.ErrRange},
		{api.Step{Code: api.Num, A: 7, B: 1}, api.ErrRange},
		{api.Step{Code: api.Num, Dst: 7, C: 1}, api.ErrRange},
		{api.Step{Code: api.Not, C: 7}, api.ErrArg},
	}
	fine := api.Step{Code: api.Pick, A: 1}
	for _, a := range steps {
		for _, b := range steps {
			both(t, []any{a, b}, of(2, a.s, b.s), a.want, 0)
			both(t, []any{a, b}, of(2, fine, fine, fine, a.s, fine, b.s), a.want, 3)
		}
	}
	last := slices.Repeat([]api.Step{fine}, api.MaxCode)
	last[api.MaxCode-1].C = 2
	both(t, "the last step", of(2, last...), api.ErrRange, api.MaxCode-1)
}

// Rule P4: code is not written into, nor what stands behind a list's length;
// what comes out is fresh; asked again, the same is told.
func TestCheckLeavesTheCode(t *testing.T) {
	make1 := func() api.Net {
		return api.Net{
			Places: 3, First: []int64{4, 5, 6, 77}[:3],
			Ins: []int{2, 0, 77}[:2], Outs: []int{2, 1, 77}[:2], Keeps: []int{1, 1, 0, 77}[:3], Nums: []int64{8, 77}[:1],
			Code: []api.Step{{Code: api.Pick, Dst: 2, A: 1, B: 2}, {Code: api.Num}, {Code: 77}}[:2],
		}
	}
	behind := func(n api.Net) []any {
		return []any{n.First[:4], n.Ins[:3], n.Outs[:3], n.Keeps[:4], n.Nums[:2], n.Code[:3]}
	}
	n := make1()
	both(t, "code", n, api.OK, -1)
	m, _ := New(n)
	m.Tick([]int64{1, 2, 3})
	m.Tick(nil)
	if !reflect.DeepEqual(n, make1()) || !reflect.DeepEqual(behind(n), behind(make1())) {
		t.Errorf("%v, %v was written into", n, behind(n))
	}
	n.Code[1].B = 1
	first, second := Check(n), Check(n)
	is(t, "wrong code", first, api.ErrArg, 1)
	first.(*api.At).Place = 99
	is(t, "wrong code again", second, api.ErrArg, 1)
	s := api.Step{Code: api.Add, A: 1, B: 2}
	Asks(s)[0] = 99
	if !slices.Equal(Asks(s), []int{1, 2}) {
		t.Error("what Asks tells is not fresh")
	}
}
