package share

import (
	"fmt"
	"reflect"
	"slices"
	"testing"

	"clepsydra/api"
	"clepsydra/emit"
	"clepsydra/fold"
	"clepsydra/net"
	"clepsydra/parse"
	"clepsydra/plain"
)

// shared is what Share tells of code that may be, held against 9.1 but for what
// its Machine tells.
func shared(t *testing.T, n api.Net) api.Net {
	t.Helper()
	f, err := Share(n)
	if err != nil {
		t.Fatalf("%.300s: %v", fmt.Sprint(n), err)
	}
	if err := net.Check(f); err != nil {
		t.Fatalf("%.300s is shared to %.300s, which may not be: %v", fmt.Sprint(n), fmt.Sprint(f), err)
	}
	if len(f.Ins) != len(n.Ins) || len(f.Outs) != len(n.Outs) || len(f.Code) > len(n.Code) {
		t.Errorf("%.300s is shared to %.300s", fmt.Sprint(n), fmt.Sprint(f))
	}
	if i, j := twice(f); i >= 0 {
		t.Errorf("%.300s is shared to %.300s, of which steps %d and %d make one thing", fmt.Sprint(n), fmt.Sprint(f), i, j)
	}
	return f
}

// twice are the first two steps of one code (but Var) that ask the same, with
// no step between them (nor the first one itself) that puts something at what
// they ask, or at what the first one made; -1, if there are none.
func twice(n api.Net) (int, int) {
	for i, s := range n.Code {
		asked := net.Asks(s)
		if s.Code == api.Var || slices.Contains(asked, s.Dst) {
			continue
		}
		for j := i + 1; j < len(n.Code); j++ {
			other := n.Code[j]
			if other.Code == s.Code && other.A == s.A && other.B == s.B && other.C == s.C {
				return i, j
			}
			if other.Dst == s.Dst || slices.Contains(asked, other.Dst) {
				break
			}
		}
	}
	return -1, -1
}

// same fails the test unless two codes tell the same of these.
func same(t *testing.T, n, f api.Net, ins [][]int64) {
	t.Helper()
	one, err := net.New(n)
	two, err2 := net.New(f)
	if err != nil || err2 != nil {
		t.Fatalf("%.300s: %v; %.300s: %v", fmt.Sprint(n), err, fmt.Sprint(f), err2)
	}
	for i, told := range ins {
		if want, got := one.Tick(told), two.Tick(told); !slices.Equal(got, want) {
			t.Fatalf("%.600s is shared to %.600s: tick %d of %v: %v; want %v", fmt.Sprint(n), fmt.Sprint(f), i, ins, got, want)
		}
	}
}

// num puts a number at a place; to copies one, add and neg make something.
func num(place, a int) api.Step    { return api.Step{Code: api.Num, Dst: place, A: a} }
func to(place, a int) api.Step     { return api.Step{Code: api.Var, Dst: place, A: a} }
func neg(place, a int) api.Step    { return api.Step{Code: api.Neg, Dst: place, A: a} }
func add(place, a, b int) api.Step { return api.Step{Code: api.Add, Dst: place, A: a, B: b} }

// of is code of eight places, which are told each; some are told ahead, some
// are kept.
func of(code ...api.Step) api.Net {
	return api.Net{
		Places: 8, First: []int64{3, 1, 4, 1, 5, 9, 2, 6}, Ins: []int{0, 1}, Outs: []int{0, 1, 2, 3, 4, 5, 6, 7}, Keeps: []int{2, 5},
		Nums: []int64{7, -2, 7}, Code: code,
	}
}

// ticks are some that may be told.
func ticks() [][]int64 { return [][]int64{{3, 8}, nil, {-1}, {2, 2, 9}} }

// Promise 9.1: what was made, and is there yet, is copied; what is copied is
// asked where it came from.
func TestSteps(t *testing.T) {
	for name, c := range map[string]struct{ code, want []api.Step }{
		"what was made is copied":                  {[]api.Step{add(2, 0, 1), add(3, 0, 1)}, []api.Step{add(2, 0, 1), to(3, 2)}},
		"a number, too":                            {[]api.Step{num(2, 1), num(3, 1), num(4, 0)}, []api.Step{num(2, 1), to(3, 2), num(4, 0)}},
		"a number that is there twice":             {[]api.Step{num(2, 2), num(3, 0), num(4, 2)}, []api.Step{num(2, 2), to(3, 2), to(4, 2)}},
		"a copy of a copy":                         {[]api.Step{to(2, 0), to(3, 2), to(4, 3)}, []api.Step{to(2, 0), to(3, 0), to(4, 0)}},
		"of copies the same is made":               {[]api.Step{to(2, 0), add(3, 2, 1), add(4, 0, 1)}, []api.Step{to(2, 0), add(3, 0, 1), to(4, 3)}},
		"of what was made twice":                   {[]api.Step{add(2, 0, 1), add(3, 0, 1), neg(4, 3), neg(5, 2)}, []api.Step{add(2, 0, 1), to(3, 2), neg(4, 2), to(5, 4)}},
		"other codes":                              {[]api.Step{neg(2, 0), {Code: api.Not, Dst: 3, A: 0}}, []api.Step{neg(2, 0), {Code: api.Not, Dst: 3, A: 0}}},
		"other places":                             {[]api.Step{{Code: api.Sub, Dst: 2, A: 0, B: 1}, {Code: api.Sub, Dst: 3, A: 1, B: 0}}, []api.Step{{Code: api.Sub, Dst: 2, A: 0, B: 1}, {Code: api.Sub, Dst: 3, A: 1, B: 0}}},
		"a number is no place":                     {[]api.Step{num(2, 1), neg(3, 1)}, []api.Step{num(2, 1), neg(3, 1)}},
		"what they ask is another thing":           {[]api.Step{add(2, 0, 1), num(1, 0), add(3, 0, 1)}, []api.Step{add(2, 0, 1), num(1, 0), add(3, 0, 1)}},
		"by the first one itself":                  {[]api.Step{add(0, 0, 1), add(0, 0, 1)}, []api.Step{add(0, 0, 1), add(0, 0, 1)}},
		"what was made is gone":                    {[]api.Step{add(2, 0, 1), num(2, 0), add(3, 0, 1)}, []api.Step{add(2, 0, 1), num(2, 0), add(3, 0, 1)}},
		"it is gone, and made again":               {[]api.Step{add(2, 0, 1), num(2, 0), add(3, 0, 1), add(4, 0, 1)}, []api.Step{add(2, 0, 1), num(2, 0), add(3, 0, 1), to(4, 3)}},
		"it is gone, but a copy is there":          {[]api.Step{add(2, 0, 1), to(3, 2), num(2, 0), add(4, 0, 1)}, []api.Step{add(2, 0, 1), to(3, 2), num(2, 0), to(4, 3)}},
		"the copy is gone":                         {[]api.Step{to(2, 0), num(2, 0), neg(3, 2)}, []api.Step{to(2, 0), num(2, 0), neg(3, 2)}},
		"where it came from is gone":               {[]api.Step{to(2, 0), num(0, 0), neg(3, 2)}, []api.Step{to(2, 0), num(0, 0), neg(3, 2)}},
		"what is asked is gone, but a copy is not": {[]api.Step{to(4, 0), add(2, 0, 1), num(0, 0), add(3, 4, 1)}, []api.Step{to(4, 0), add(2, 0, 1), num(0, 0), to(3, 2)}},
		"it was made where it asked":               {[]api.Step{to(4, 0), add(0, 0, 1), add(3, 4, 1)}, []api.Step{to(4, 0), add(0, 0, 1), to(3, 0)}},
		"it is there":                              {[]api.Step{add(2, 0, 1), add(2, 0, 1)}, []api.Step{add(2, 0, 1)}},
		"a place is itself":                        {[]api.Step{to(2, 2), to(3, 2), to(2, 3)}, []api.Step{to(3, 2)}},
		"what is there stays the first one":        {[]api.Step{to(3, 2), to(2, 3), neg(4, 3)}, []api.Step{to(3, 2), neg(4, 2)}},
		"places change":                            {[]api.Step{to(2, 0), to(0, 1), to(1, 2), add(3, 0, 1), add(4, 0, 2)}, []api.Step{to(2, 0), to(0, 1), to(1, 2), add(3, 0, 2), to(4, 3)}},
		"of three":                                 {[]api.Step{{Code: api.Pick, Dst: 2, A: 0, B: 1, C: 3}, {Code: api.Pick, Dst: 4, A: 0, B: 1, C: 3}, {Code: api.Pick, Dst: 5, A: 0, B: 1, C: 6}}, []api.Step{{Code: api.Pick, Dst: 2, A: 0, B: 1, C: 3}, to(4, 2), {Code: api.Pick, Dst: 5, A: 0, B: 1, C: 6}}},
		"nothing":                                  {nil, nil},
	} {
		n := of(c.code...)
		f := shared(t, n)
		if !slices.Equal(f.Code, c.want) {
			t.Errorf("%s: %v; want %v", name, f.Code, c.want)
		}
		same(t, n, f, ticks())
	}
}

// Promise 9.1: of each code but Var, what was made is copied.
func TestCodes(t *testing.T) {
	for code := api.Num; code <= api.Pick; code++ {
		if code == api.Var || code == api.Pre {
			continue
		}
		s := api.Step{Code: code, Dst: 4}
		for i, at := range []*int{&s.A, &s.B, &s.C}[:len(net.Asks(s))] {
			*at = i + 1
		}
		again, third := s, s
		again.Dst, third.Dst = 5, 6
		n := of(s, num(7, 1), again, num(4, 1), third)
		f := shared(t, n)
		if c := f.Code[2].Code; c != api.Var {
			t.Errorf("code %d: %v: code %d at step 2", code, f, c)
		}
		if c := f.Code[4]; c != to(6, 5) {
			t.Errorf("code %d: %v: %v at step 4; want a copy of 5", code, f, c)
		}
		same(t, n, f, ticks())
	}
}

// Promise 9.1: nothing is known of a place ahead of the first step: neither of
// what was there at first, nor of what is told, nor of what is kept.
func TestUnknown(t *testing.T) {
	n := of(num(3, 0), neg(4, 2), neg(5, 1), add(2, 2, 1))
	n.First = []int64{7, 7, 7, 7, 7, 7, 7, 7}
	f := shared(t, n)
	if !slices.Equal(f.Code, n.Code) {
		t.Errorf("%v is shared to %v", n, f)
	}
	same(t, n, f, ticks())
}

// What Share tells of what it told is just that, and what has nothing to share
// stays as it is.
func TestAgain(t *testing.T) {
	n := of(add(2, 0, 1), to(3, 2), add(4, 0, 1), num(2, 0), neg(6, 3), neg(5, 4), num(7, 2), to(7, 7))
	f := shared(t, n)
	if again := shared(t, f); !reflect.DeepEqual(again, f) {
		t.Errorf("%v is shared to %v", f, again)
	}
	if nothing := shared(t, api.Net{}); nothing.Places != 0 || len(nothing.Code) != 0 {
		t.Errorf("nothing is shared to %v", nothing)
	}
}

// Promise 9.1: as much code as there may be: all of it one thing at as many
// places, which then are put over one by one; and none of it one thing.
func TestFull(t *testing.T) {
	n := api.Net{Places: api.MaxCode, First: make([]int64, api.MaxCode), Ins: []int{0}, Outs: []int{0, api.MaxCode / 2, api.MaxCode - 1}, Nums: []int64{1}}
	for place := range api.MaxCode / 2 {
		n.Code = append(n.Code, neg(api.MaxCode-1-place, 0))
	}
	for place := range api.MaxCode / 2 {
		n.Code = append(n.Code, num(api.MaxCode-1-place, 0))
	}
	n.Code[api.MaxCode-1] = neg(0, 0)
	f := shared(t, n)
	if f.Code[1999].Code != api.Var || f.Code[2000].Code != api.Num || f.Code[2001].Code != api.Var {
		t.Errorf("%v", f.Code[1999:2002])
	}
	// What was made was moved from place to place, and is at the last one yet.
	if got, want := f.Code[api.MaxCode-1], to(0, api.MaxCode/2); got != want {
		t.Errorf("the last step is %v; want %v", got, want)
	}
	same(t, n, f, ticks())
	n = of()
	for range api.MaxCode {
		n.Code = append(n.Code, add(0, 0, 1))
	}
	if f = shared(t, n); !slices.Equal(f.Code, n.Code) {
		t.Errorf("what goes on is shared")
	}
	same(t, n, f, ticks())
}

// Promise 9.1: Check's errors, and nothing else with them.
func TestWrong(t *testing.T) {
	many := make([]int64, api.MaxCode+1)
	for _, c := range []struct {
		n     api.Net
		err   api.Errno
		place int
	}{
		{api.Net{Places: -1}, api.ErrLimit, -1},
		{api.Net{Places: api.MaxCode + 1, First: many}, api.ErrLimit, -1},
		{api.Net{Nums: many}, api.ErrLimit, -1},
		{api.Net{Code: make([]api.Step, api.MaxCode+1)}, api.ErrLimit, -1},
		{api.Net{Places: 1}, api.ErrForm, -1},
		{api.Net{Places: 1, First: []int64{0}, Outs: []int{1}}, api.ErrRange, -1},
		{api.Net{Places: 1, First: []int64{0}, Ins: []int{0, 0}}, api.ErrTwice, -1},
		{of(num(0, 3)), api.ErrRange, 0},
		{of(num(0, 0), api.Step{Code: api.Pre}), api.ErrForm, 1},
		{of(num(0, 0), num(0, 0), neg(0, 8)), api.ErrRange, 2},
		{of(num(0, 0), num(8, 0)), api.ErrRange, 1},
		{of(num(0, 0), api.Step{Code: api.Num, C: 1}), api.ErrArg, 1},
	} {
		f, err := Share(c.n)
		if e, place := plain.Place(err); e != c.err || place != c.place {
			t.Errorf("%.200s: %v at %d; want %v at %d", fmt.Sprint(c.n), e, place, c.err, c.place)
		}
		if !reflect.DeepEqual(f, api.Net{}) {
			t.Errorf("%.200s: %v beside an error", fmt.Sprint(c.n), f)
		}
	}
}

// room is a list with something behind its length.
func room[T any](l []T, behind T) []T {
	return append(slices.Clone(l), behind)[: len(l) : len(l)+1]
}

// spoil writes into all of a list, and behind it.
func spoil[T any](l []T, with T) {
	for i := range l[:cap(l)] {
		l[:cap(l)][i] = with
	}
}

// spoilAll does so with all that code has.
func spoilAll(n api.Net) {
	spoil(n.First, 77)
	spoil(n.Nums, 77)
	spoil(n.Ins, 77)
	spoil(n.Outs, 77)
	spoil(n.Keeps, 77)
	spoil(n.Code, api.Step{Code: 77, A: 77})
}

// Rule P4: what is handed in is not written into, nor behind it; what comes out
// shares nothing with it, nor with what came out ahead.
func TestFresh(t *testing.T) {
	build := func() api.Net {
		return api.Net{
			Places: 3, First: room([]int64{1, 2, 3}, 9), Ins: room([]int{1}, 9), Outs: room([]int{0, 2}, 9), Keeps: room([]int{0, 2}, 9),
			Nums: room([]int64{4, 4}, 9), Code: room([]api.Step{num(0, 1), num(2, 0), add(1, 2, 1)}, api.Step{Code: 9}),
		}
	}
	n := build()
	f := shared(t, n)
	want := fmt.Sprint(f)
	whole := func(n api.Net) string {
		return fmt.Sprint(n.First[:4], n.Ins[:2], n.Outs[:3], n.Keeps[:3], n.Nums[:3], n.Code[:4])
	}
	if got := whole(n); got != whole(build()) {
		t.Errorf("written into: %s", got)
	}
	spoilAll(n)
	if got := fmt.Sprint(f); got != want {
		t.Errorf("what was handed in is kept: %s; want %s", got, want)
	}
	n = build()
	spoilAll(f)
	if got := fmt.Sprint(shared(t, n)); got != want {
		t.Errorf("what came out is kept: %s; want %s", got, want)
	}
	// No two lists of it share any memory, either.
	f = shared(t, build())
	outs, nums := slices.Clone(f.Outs), slices.Clone(f.Nums)
	spoil(f.Ins, 66)
	spoil(f.Keeps, 66)
	spoil(f.First, 66)
	if !slices.Equal(f.Outs, outs) || !slices.Equal(f.Nums, nums) {
		t.Errorf("lists are shared: %v; want Outs %v, Nums %v", f, outs, nums)
	}
}

// Promise 9.1: what Emit tells of a chart is shared, folded or not, and tells
// the same.
func TestCharts(t *testing.T) {
	for _, text := range []string{
		`chart c { output b; region { initial state s { during b := b + 1; } } }`,
		`chart c { input a; output b := 3; region { initial state s { during b := a * a + a * a; during b := a * a - b / (a * a); } } }`,
		`chart c { input a; output b; region { initial state s { entry b := 1 + 1; go immediate if 1 < a --> t; } state t { during b := b * -1; go if count 2 !(1 < a) --> s; } } }`,
	} {
		c, err := parse.Parse(text)
		if err != nil {
			t.Fatalf("%s: %v", text, err)
		}
		n, err := emit.Emit(c)
		if err != nil {
			t.Fatalf("%s: %v", text, err)
		}
		folded, err := fold.Fold(n)
		if err != nil {
			t.Fatalf("%s: %v", text, err)
		}
		ins := [][]int64{{1}, {0}, {5}, nil, {1}, {1}, {0}, {-2}, {4}, {3}}
		same(t, n, shared(t, n), ins)
		same(t, n, shared(t, folded), ins)
	}
}
