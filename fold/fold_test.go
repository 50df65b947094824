package fold

import (
	"fmt"
	"math"
	"reflect"
	"slices"
	"testing"

	"clepsydra/api"
	"clepsydra/emit"
	"clepsydra/net"
	"clepsydra/parse"
	"clepsydra/plain"
)

// folded is what Fold tells of code that may be, held against 8.1 but for what
// its Machine tells.
func folded(t *testing.T, n api.Net) api.Net {
	t.Helper()
	f, err := Fold(n)
	if err != nil {
		t.Fatalf("%.300s: %v", fmt.Sprint(n), err)
	}
	if err := net.Check(f); err != nil {
		t.Fatalf("%.300s is folded to %.300s, which may not be: %v", fmt.Sprint(n), fmt.Sprint(f), err)
	}
	if len(f.Ins) != len(n.Ins) || len(f.Outs) != len(n.Outs) || len(f.Code) > len(n.Code) {
		t.Errorf("%.300s is folded to %.300s", fmt.Sprint(n), fmt.Sprint(f))
	}
	if i := known(f); i >= 0 {
		t.Errorf("%.300s is folded to %.300s, of which step %d is known", fmt.Sprint(n), fmt.Sprint(f), i)
	}
	return f
}

// known is the first step that asks just places (one, at least) at each of
// which a Num put something last, ahead of it; -1, if there is none.
func known(n api.Net) int {
	isNum := func(place, ahead int) bool {
		for i := ahead - 1; i >= 0; i-- {
			if n.Code[i].Dst == place {
				return n.Code[i].Code == api.Num
			}
		}
		return false
	}
	for i, s := range n.Code {
		asked := net.Asks(s)
		if len(asked) > 0 && !slices.ContainsFunc(asked, func(place int) bool { return !isNum(place, i) }) {
			return i
		}
	}
	return -1
}

// same fails the test unless two codes tell the same of these.
func same(t *testing.T, n, f api.Net, ins [][]int64) {
	t.Helper()
	one, err := net.New(n)
	two, err2 := net.New(f)
	if err != nil || err2 != nil {
		t.Fatalf("%.300s: %v; %.300s: %v", fmt.Sprint(n), err, fmt.Sprint(f), err2)
	}
	for i, told := range ins {
		if want, got := one.Tick(told), two.Tick(told); !slices.Equal(got, want) {
			t.Fatalf("%.600s is folded to %.600s: tick %d of %v: %v; want %v", fmt.Sprint(n), fmt.Sprint(f), i, ins, got, want)
		}
	}
}

// num puts a number at a place.
func num(place, a int) api.Step { return api.Step{Code: api.Num, Dst: place, A: a} }

// of is code of so many places, which are 0 at first, and told each.
func of(places int, nums []int64, code ...api.Step) api.Net {
	n := api.Net{Places: places, First: make([]int64, places), Nums: nums, Code: code}
	for place := range places {
		n.Outs = append(n.Outs, place)
	}
	return n
}

// made is the number that a step has; false, if it is no Num.
func made(n api.Net, step int) (int64, bool) {
	s := n.Code[step]
	if s.Code != api.Num {
		return 0, false
	}
	return n.Nums[s.A], true
}

// Promise 8.1: what each code makes of known numbers is that number.
func TestKnown(t *testing.T) {
	const least, most = math.MinInt64, math.MaxInt64
	for _, c := range []struct {
		code          int
		a, b, c, want int64
	}{
		{api.Var, 7, 0, 0, 7}, {api.Var, least, 0, 0, least},
		{api.Neg, 7, 0, 0, -7}, {api.Neg, least, 0, 0, least},
		{api.Not, 0, 0, 0, 1}, {api.Not, -3, 0, 0, 0},
		{api.Add, 7, -9, 0, -2}, {api.Add, most, 1, 0, least},
		{api.Sub, 7, 9, 0, -2}, {api.Sub, least, 1, 0, most},
		{api.Mul, -7, 9, 0, -63}, {api.Mul, most, 2, 0, -2},
		{api.Div, -7, 2, 0, -3}, {api.Div, 7, 0, 0, 0}, {api.Div, least, -1, 0, least},
		{api.Mod, -7, 2, 0, -1}, {api.Mod, 7, 0, 0, 0}, {api.Mod, least, -1, 0, 0},
		{api.Eq, 7, 7, 0, 1}, {api.Eq, 7, 8, 0, 0},
		{api.Ne, 7, 7, 0, 0}, {api.Ne, 7, 8, 0, 1},
		{api.Lt, 7, 8, 0, 1}, {api.Lt, 7, 7, 0, 0}, {api.Lt, 8, 7, 0, 0},
		{api.Le, 7, 8, 0, 1}, {api.Le, 7, 7, 0, 1}, {api.Le, 8, 7, 0, 0},
		{api.And, 7, -8, 0, 1}, {api.And, 0, 8, 0, 0}, {api.And, 7, 0, 0, 0},
		{api.Or, 0, -8, 0, 1}, {api.Or, 7, 0, 0, 1}, {api.Or, 0, 0, 0, 0},
		{api.Pick, -1, 8, 9, 8}, {api.Pick, 0, 8, 9, 9},
	} {
		s := api.Step{Code: c.code, Dst: 3}
		for i, at := range []*int{&s.A, &s.B, &s.C}[:len(net.Asks(s))] {
			*at = i
		}
		n := of(4, []int64{c.a, c.b, c.c}, num(0, 0), num(1, 1), num(2, 2), s)
		f := folded(t, n)
		if got, so := made(f, 3); !so || got != c.want {
			t.Errorf("%v is folded to %v; want %d at the last step", n, f, c.want)
		}
		same(t, n, f, [][]int64{nil, nil})
	}
}

// Promise 8.1: what is made of what was folded is folded, too, and what is put
// at a place that is asked; but nothing is known any more where something else
// was put behind the Num.
func TestStepByStep(t *testing.T) {
	n := of(3, []int64{5, 2},
		num(0, 0), num(1, 1), // 5, 2
		api.Step{Code: api.Add, Dst: 0, A: 0, B: 1}, // 7
		api.Step{Code: api.Mul, Dst: 0, A: 0, B: 0}, // 49
		api.Step{Code: api.Var, Dst: 1, A: 0},       // 49
		api.Step{Code: api.Add, Dst: 0, A: 1, B: 2}, // a + 49
		api.Step{Code: api.Sub, Dst: 0, A: 0, B: 1}, // a
		api.Step{Code: api.Neg, Dst: 2, A: 1},       // -49
		api.Step{Code: api.Neg, Dst: 0, A: 2},       // 49
	)
	n.Ins = []int{2}
	f := folded(t, n)
	var codes []int
	for _, s := range f.Code {
		codes = append(codes, s.Code)
	}
	if want := []int{api.Num, api.Num, api.Num, api.Num, api.Num, api.Add, api.Sub, api.Num, api.Num}; !slices.Equal(codes, want) {
		t.Errorf("%v; want codes %v", f, want)
	}
	same(t, n, f, [][]int64{{3}, nil, {-8}})
}

// Promise 8.1: what a Pick asks last need not be known where it is not picked;
// if what is picked is not known, it is handed on.
func TestPick(t *testing.T) {
	for _, c := range []struct {
		which   int // the number at place 0
		b, c    int // 1 is known, 2 is told
		want    int
		unknown bool
	}{
		{0, 1, 2, api.Num, false}, {0, 2, 1, api.Var, false}, {1, 2, 1, api.Num, false}, {1, 1, 2, api.Var, false},
		{0, 1, 1, api.Num, false}, {1, 2, 2, api.Var, false}, {0, 1, 1, api.Pick, true},
	} {
		n := of(4, []int64{-6, 0, 9}, num(0, c.which), num(1, 2), api.Step{Code: api.Pick, Dst: 3, A: 0, B: c.b, C: c.c}, api.Step{Code: api.Not, Dst: 0, A: 3})
		n.Ins = []int{2}
		if c.unknown {
			n.Code[2].A = 2
		}
		f := folded(t, n)
		if f.Code[2].Code != c.want {
			t.Errorf("%v is folded to %v; want code %d at step 2", n, f, c.want)
		}
		same(t, n, f, [][]int64{{4}, {0}, nil, {-1}})
	}
}

// Promise 8.1: nothing is known of what a place was at first, of what is told,
// of what is kept, nor of what a Num puts there behind the step.
func TestUnknown(t *testing.T) {
	neg := api.Step{Code: api.Neg, Dst: 1, A: 0}
	for _, n := range []api.Net{
		{First: []int64{3, 0}, Code: []api.Step{neg}},
		{First: []int64{3, 0}, Code: []api.Step{neg, num(0, 0)}},
		{First: []int64{3, 0}, Keeps: []int{0}, Code: []api.Step{neg, num(0, 0)}},
		{First: []int64{3, 0}, Keeps: []int{1, 0}, Code: []api.Step{neg, num(0, 0)}},
		{First: []int64{3, 0}, Ins: []int{0}, Code: []api.Step{neg}},
		{First: []int64{3, 0}, Ins: []int{0}, Code: []api.Step{neg, num(0, 0), {Code: api.Add, Dst: 0, A: 0, B: 1}}},
		{First: []int64{3, 0}, Keeps: []int{0}, Code: []api.Step{num(1, 0), {Code: api.Add, Dst: 0, A: 0, B: 1}}},
		{First: []int64{3, 0}, Keeps: []int{0}, Code: []api.Step{{Code: api.Pick, Dst: 1, A: 0, B: 1, C: 0}, num(0, 0)}},
		{First: []int64{0, 5}, Code: []api.Step{{Code: api.Eq, Dst: 0, A: 1, B: 1}, {Code: api.Mul, Dst: 0, A: 0, B: 1}}},
	} {
		n.Places, n.Nums, n.Outs = 2, []int64{8}, []int{0, 1}
		same(t, n, folded(t, n), [][]int64{nil, {2}, nil, {-5, 7}})
	}
}

// Promise 8.1: where all MaxCode numbers are there, and none of them is what is
// made, all is folded still: numbers that no step has make room.
func TestFullOfNumbers(t *testing.T) {
	nums := make([]int64, api.MaxCode)
	for i := range nums {
		nums[i] = int64(i)
	}
	n := of(1, nums, num(0, api.MaxCode-1))
	for range api.MaxCode - 1 {
		n.Code = append(n.Code, api.Step{Code: api.Add})
	}
	n.Code[1] = api.Step{Code: api.Not}
	n.Code[2] = api.Step{Code: api.Not}
	f := folded(t, n)
	if got, so := made(f, 40); !so || got != 1<<38 {
		t.Errorf("step 40 makes %d, %v", got, so)
	}
	same(t, n, f, [][]int64{nil, nil})
	// As many numbers as there may be are made, and each is another one.
	n = of(2, []int64{1, 1}, num(0, 0), num(1, 1))
	for len(n.Code) < api.MaxCode {
		n.Code = append(n.Code, api.Step{Code: api.Add, Dst: 0, A: 0, B: 1})
	}
	f = folded(t, n)
	if got, so := made(f, api.MaxCode-1); !so || got != api.MaxCode-1 {
		t.Errorf("the last step makes %d, %v", got, so)
	}
	same(t, n, f, [][]int64{nil})
}

// Numbers are those that a step has, each once.
func TestNumbers(t *testing.T) {
	n := of(3, []int64{3, 8, 3, 4}, num(1, 2), num(2, 3), num(0, 0), api.Step{Code: api.Add, Dst: 0, A: 1, B: 2}, api.Step{Code: api.Sub, Dst: 1, A: 0, B: 2})
	if f := folded(t, n); !slices.Equal(f.Nums, []int64{3, 4, 7}) {
		t.Errorf("%v is folded to %v", n, f)
	}
}

// Promise 8.1: as it is, if nothing is known; and nothing of nothing.
func TestNothingKnown(t *testing.T) {
	folded(t, api.Net{})
	n := api.Net{Places: 2, First: []int64{4, -4}, Ins: []int{1}, Outs: []int{0, 0, 1}, Keeps: []int{0}, Code: []api.Step{{Code: api.Sub, Dst: 0, A: 1, B: 0}}}
	if f := folded(t, n); !reflect.DeepEqual(f, n) {
		t.Errorf("%v is folded to %v", n, f)
	}
}

// Promise 8.1: Check's errors, and nothing else with them.
func TestWrong(t *testing.T) {
	many := make([]int64, api.MaxCode+1)
	for _, c := range []struct {
		n     api.Net
		err   api.Errno
		place int
	}{
		{api.Net{Places: -1}, api.ErrLimit, -1},
		{api.Net{Places: api.MaxCode + 1, First: many}, api.ErrLimit, -1},
		{api.Net{Nums: many}, api.ErrLimit, -1},
		{api.Net{Places: 1}, api.ErrForm, -1},
		{api.Net{Places: 1, First: []int64{0}, Outs: []int{1}}, api.ErrRange, -1},
		{api.Net{Places: 1, First: []int64{0}, Ins: []int{0, 0}}, api.ErrTwice, -1},
		{of(1, nil, num(0, 0)), api.ErrRange, 0},
		{of(1, []int64{1}, num(0, 0), api.Step{Code: api.Pre}), api.ErrForm, 1},
		{of(1, []int64{1}, num(0, 0), num(0, 0), api.Step{Code: api.Neg, A: 1}), api.ErrRange, 2},
		{of(1, []int64{1}, num(0, 0), api.Step{Code: api.Num, C: 1}), api.ErrArg, 1},
	} {
		f, err := Fold(c.n)
		if e, place := plain.Place(err); e != c.err || place != c.place {
			t.Errorf("%.200s: %v at %d; want %v at %d", fmt.Sprint(c.n), e, place, c.err, c.place)
		}
		if !reflect.DeepEqual(f, api.Net{}) {
			t.Errorf("%.200s: %v beside an error", fmt.Sprint(c.n), f)
		}
	}
}

// room is a list with something behind its length.
func room[T any](l []T, behind T) []T {
	return append(slices.Clone(l), behind)[: len(l) : len(l)+1]
}

// spoil writes into all that code has, and behind it.
func spoil(n api.Net) {
	for _, l := range [][]int64{n.First, n.Nums} {
		for i := range l[:cap(l)] {
			l[:cap(l)][i] = 77
		}
	}
	for _, l := range [][]int{n.Ins, n.Outs, n.Keeps} {
		for i := range l[:cap(l)] {
			l[:cap(l)][i] = 77
		}
	}
	for i := range n.Code[:cap(n.Code)] {
		n.Code[:cap(n.Code)][i] = api.Step{Code: 77, A: 77}
	}
}

// Rule P4: what is handed in is not written into, nor behind it; what comes out
// shares nothing with it, nor with what came out ahead.
func TestFresh(t *testing.T) {
	build := func() api.Net {
		return api.Net{
			Places: 3, First: room([]int64{1, 2, 3}, 9), Ins: room([]int{1}, 9), Outs: room([]int{0, 2}, 9), Keeps: room([]int{0, 2}, 9),
			Nums: room([]int64{4, 4}, 9), Code: room([]api.Step{num(0, 1), {Code: api.Not, Dst: 0, A: 0}, {Code: api.Add, Dst: 2, A: 1, B: 2}}, api.Step{Code: 9}),
		}
	}
	n := build()
	f := folded(t, n)
	want := fmt.Sprint(f)
	whole := func(n api.Net) string {
		return fmt.Sprint(n.First[:4], n.Ins[:2], n.Outs[:3], n.Keeps[:3], n.Nums[:3], n.Code[:4])
	}
	if got := whole(n); got != whole(build()) {
		t.Errorf("written into: %s", got)
	}
	spoil(n)
	if got := fmt.Sprint(f); got != want {
		t.Errorf("what was handed in is kept: %s; want %s", got, want)
	}
	n = build()
	spoil(f)
	if got := fmt.Sprint(folded(t, n)); got != want {
		t.Errorf("what came out is kept: %s; want %s", got, want)
	}
	// No two lists of it share any memory, either.
	f = folded(t, build())
	outs := slices.Clone(f.Outs)
	_ = append(f.Ins, 55)
	_ = append(f.Keeps, 55)
	f.Keeps[0], f.Ins[0], f.First[0], f.Nums[0] = 66, 66, 66, 66
	if !slices.Equal(f.Outs, outs) {
		t.Errorf("Outs are shared: %v; want %v", f.Outs, outs)
	}
}

// Promise 8.1: what Emit tells of a chart is folded, and tells the same.
func TestCharts(t *testing.T) {
	for _, text := range []string{
		`chart c { output b; region { initial state s { during b := b + 1; } } }`,
		`chart c { input a; output b := 3; region { initial state s { during b := 2 * (3 + 4) - a / (5 - 5); } } }`,
		`chart c { input a; output b; region { initial state s { entry b := 1 + 1; go immediate if 1 < 2 && a --> t; } state t { during b := b * -1; go if count 2 !0 --> s; } } }`,
	} {
		c, err := parse.Parse(text)
		if err != nil {
			t.Fatalf("%s: %v", text, err)
		}
		n, err := emit.Emit(c)
		if err != nil {
			t.Fatalf("%s: %v", text, err)
		}
		same(t, n, folded(t, n), [][]int64{{1}, {0}, {5}, nil, {1}, {1}, {0}, {-2}})
	}
}
