package prune

import (
	"fmt"
	"reflect"
	"slices"
	"testing"

	"clepsydra/api"
	"clepsydra/emit"
	"clepsydra/fold"
	"clepsydra/net"
	"clepsydra/parse"
	"clepsydra/plain"
	"clepsydra/share"
)

// pruned is what Prune tells of code that may be, held against 10.1 but for what
// its Machine tells.
func pruned(t *testing.T, n api.Net) api.Net {
	t.Helper()
	f, err := Prune(n)
	if err != nil {
		t.Fatalf("%.300s: %v", fmt.Sprint(n), err)
	}
	if err := net.Check(f); err != nil {
		t.Fatalf("%.300s is pruned to %.300s, which may not be: %v", fmt.Sprint(n), fmt.Sprint(f), err)
	}
	if len(f.Ins) != len(n.Ins) || len(f.Outs) != len(n.Outs) || len(f.Code) > len(n.Code) || len(f.Keeps) > len(n.Keeps) {
		t.Errorf("%.300s is pruned to %.300s", fmt.Sprint(n), fmt.Sprint(f))
	}
	if i := idle(f); i >= 0 {
		t.Errorf("%.300s is pruned to %.300s, of which step %d is for nothing", fmt.Sprint(n), fmt.Sprint(f), i)
	}
	return f
}

// idle is the first step that is for nothing; -1, if there is none.
func idle(n api.Net) int {
	for i := range n.Code {
		if !isFor(n, i) {
			return i
		}
	}
	return -1
}

// isFor tells whether a step is for something, by the words of 10.1.
func isFor(n api.Net, i int) bool {
	place := n.Code[i].Dst
	for _, s := range n.Code[i+1:] {
		if slices.Contains(net.Asks(s), place) {
			return true
		}
		if s.Dst == place {
			return false
		}
	}
	return slices.Contains(n.Outs, place) || slices.Contains(n.Keeps, place)
}

// same fails the test unless two codes tell the same of these.
func same(t *testing.T, n, f api.Net, ins [][]int64) {
	t.Helper()
	one, err := net.New(n)
	two, err2 := net.New(f)
	if err != nil || err2 != nil {
		t.Fatalf("%.300s: %v; %.300s: %v", fmt.Sprint(n), err, fmt.Sprint(f), err2)
	}
	for i, told := range ins {
		if want, got := one.Tick(told), two.Tick(told); !slices.Equal(got, want) {
			t.Fatalf("%.600s is pruned to %.600s: tick %d of %v: %v; want %v", fmt.Sprint(n), fmt.Sprint(f), i, ins, got, want)
		}
	}
}

// num puts a number at a place; to copies one, add, neg and pick make something.
func num(place, a int) api.Step        { return api.Step{Code: api.Num, Dst: place, A: a} }
func to(place, a int) api.Step         { return api.Step{Code: api.Var, Dst: place, A: a} }
func neg(place, a int) api.Step        { return api.Step{Code: api.Neg, Dst: place, A: a} }
func add(place, a, b int) api.Step     { return api.Step{Code: api.Add, Dst: place, A: a, B: b} }
func pick(place, a, b, c int) api.Step { return api.Step{Code: api.Pick, Dst: place, A: a, B: b, C: c} }

// of is code of eight places: 0 and 1 are told ahead, 4 and 5 are kept, 6 and 7
// are told.
func of(code ...api.Step) api.Net {
	return api.Net{
		Places: 8, First: []int64{3, 1, 4, 1, 5, 9, 2, 6}, Ins: []int{0, 1}, Outs: []int{6, 7}, Keeps: []int{4, 5},
		Nums: []int64{7, -2, 7}, Code: code,
	}
}

// ticks are some that may be told.
func ticks() [][]int64 { return [][]int64{{3, 8}, nil, {-1}, {2, 2, 9}, {5}, {0, 6}} }

// Promise 10.1: steps that are for nothing go, and what is kept for nothing.
func TestSteps(t *testing.T) {
	for name, c := range map[string]struct {
		code, want []api.Step
		keeps      []int
	}{
		"nothing":                               {nil, nil, nil},
		"an output":                             {[]api.Step{num(6, 0)}, []api.Step{num(6, 0)}, nil},
		"no output":                             {[]api.Step{num(2, 0), num(6, 1)}, []api.Step{num(6, 1)}, nil},
		"it is asked":                           {[]api.Step{neg(2, 0), neg(6, 2)}, []api.Step{neg(2, 0), neg(6, 2)}, nil},
		"it is asked ahead alone":               {[]api.Step{neg(6, 2), neg(2, 0)}, []api.Step{neg(6, 2)}, nil},
		"it is asked by what goes":              {[]api.Step{neg(2, 0), neg(3, 2), neg(2, 3)}, nil, nil},
		"it is an output, but put over":         {[]api.Step{num(6, 0), num(6, 1)}, []api.Step{num(6, 1)}, nil},
		"it is an output, put over, but asked":  {[]api.Step{num(6, 0), to(7, 6), num(6, 1)}, []api.Step{num(6, 0), to(7, 6), num(6, 1)}, nil},
		"it is asked by what puts it over":      {[]api.Step{num(6, 0), neg(6, 6)}, []api.Step{num(6, 0), neg(6, 6)}, nil},
		"it asks what it puts over":             {[]api.Step{add(2, 2, 0), neg(3, 1), to(6, 3)}, []api.Step{neg(3, 1), to(6, 3)}, nil},
		"it is asked behind what puts it over":  {[]api.Step{num(2, 0), num(2, 1), neg(6, 2)}, []api.Step{num(2, 1), neg(6, 2)}, nil},
		"it is put over behind what asks":       {[]api.Step{num(2, 0), neg(6, 2), num(2, 1)}, []api.Step{num(2, 0), neg(6, 2)}, nil},
		"it is put over by what is for another": {[]api.Step{num(2, 0), neg(6, 2), num(2, 1), neg(7, 2)}, []api.Step{num(2, 0), neg(6, 2), num(2, 1), neg(7, 2)}, nil},
		"it is put over behind what goes":       {[]api.Step{num(2, 0), neg(3, 2), num(2, 1), neg(6, 2)}, []api.Step{num(2, 1), neg(6, 2)}, nil},
		"of three":                              {[]api.Step{num(2, 0), num(3, 1), num(4, 2), pick(7, 2, 3, 4)}, []api.Step{num(2, 0), num(3, 1), num(4, 2), pick(7, 2, 3, 4)}, nil},
		"a number is no place":                  {[]api.Step{neg(2, 0), num(6, 2)}, []api.Step{num(6, 2)}, nil},
		"a copy of itself that goes":            {[]api.Step{to(2, 2)}, nil, nil},
		"an input is put over":                  {[]api.Step{num(0, 0), to(6, 0)}, []api.Step{num(0, 0), to(6, 0)}, nil},
		"it is kept":                            {[]api.Step{add(4, 4, 0), to(6, 4)}, []api.Step{add(4, 4, 0), to(6, 4)}, []int{4}},
		"it is kept, put behind what asks":      {[]api.Step{to(6, 5), to(5, 0)}, []api.Step{to(6, 5), to(5, 0)}, []int{5}},
		"it is not kept":                        {[]api.Step{to(6, 2), to(2, 0)}, []api.Step{to(6, 2)}, nil},
		"it is kept, and never put":             {[]api.Step{to(6, 4)}, []api.Step{to(6, 4)}, []int{4}},
		"it is kept, but nobody asks":           {[]api.Step{to(4, 0)}, nil, nil},
		"it is kept, but asked by what goes":    {[]api.Step{to(2, 4), to(4, 0)}, nil, nil},
		"it is kept, but put over ahead":        {[]api.Step{to(4, 0), to(6, 4)}, []api.Step{to(4, 0), to(6, 4)}, nil},
		"it is kept, put over, and put again":   {[]api.Step{to(4, 0), to(6, 4), to(4, 1)}, []api.Step{to(4, 0), to(6, 4)}, nil},
		"it is kept, put twice":                 {[]api.Step{to(6, 4), to(4, 0), to(4, 1)}, []api.Step{to(6, 4), to(4, 1)}, []int{4}},
		"it is kept for itself alone":           {[]api.Step{add(4, 4, 0)}, nil, nil},
		"they are kept for each other alone":    {[]api.Step{to(2, 4), to(4, 5), neg(5, 2)}, nil, nil},
		"it is kept for what is kept":           {[]api.Step{to(6, 4), to(4, 5), to(5, 0)}, []api.Step{to(6, 4), to(4, 5), to(5, 0)}, []int{4, 5}},
		"it is kept for what is kept no more":   {[]api.Step{add(4, 4, 5), add(5, 5, 0), to(7, 1)}, []api.Step{to(7, 1)}, nil},
		"it is kept beside what is kept so":     {[]api.Step{add(4, 4, 5), add(5, 5, 0), to(7, 5)}, []api.Step{add(5, 5, 0), to(7, 5)}, []int{5}},
	} {
		n := of(c.code...)
		f := pruned(t, n)
		if !slices.Equal(f.Code, c.want) || !slices.Equal(f.Keeps, c.keeps) {
			t.Errorf("%s: %v, keeps %v; want %v, keeps %v", name, f.Code, f.Keeps, c.want, c.keeps)
		}
		same(t, n, f, ticks())
	}
}

// Promise 10.1: of each code, what is asked stays, and what is not goes.
func TestCodes(t *testing.T) {
	for code := api.Num; code <= api.Pick; code++ {
		if code == api.Pre {
			continue
		}
		s := api.Step{Code: code, Dst: 6}
		asked := net.Asks(s)
		for i, at := range []*int{&s.A, &s.B, &s.C}[:len(asked)] {
			*at = i + 1
		}
		n := of(neg(1, 0), neg(2, 0), neg(3, 0), s)
		f := pruned(t, n)
		if want := append(slices.Clone(n.Code[:len(asked)]), s); !slices.Equal(f.Code, want) {
			t.Errorf("code %d: %v; want %v", code, f.Code, want)
		}
		same(t, n, f, ticks())
		s.Dst = 2
		if f = pruned(t, of(neg(1, 0), neg(2, 0), neg(3, 0), s)); len(f.Code) > 0 {
			t.Errorf("code %d: %v; want nothing", code, f.Code)
		}
	}
}

// Promise 10.1: what is kept: an output that no step puts is told in each tick; of
// an input it does not matter, nor that it is kept twice, nor of an output that
// is put ahead of what asks.
func TestKeeps(t *testing.T) {
	for name, c := range map[string]struct {
		ins, outs, keeps []int
		code             []api.Step
		want             []int
	}{
		"an output that none puts":     {nil, []int{2}, []int{2, 3}, nil, []int{2}},
		"an output that is asked":      {nil, []int{2}, []int{2}, []api.Step{add(2, 2, 2)}, []int{2}},
		"an output that is put":        {[]int{0}, []int{2}, []int{2}, []api.Step{to(2, 0)}, nil},
		"an input":                     {[]int{2}, []int{2}, []int{2}, nil, nil},
		"an input that is asked":       {[]int{2}, []int{3}, []int{2, 3}, []api.Step{add(3, 3, 2), num(2, 0)}, []int{3}},
		"twice":                        {[]int{0}, []int{2}, []int{2, 4, 2, 4, 2}, []api.Step{add(2, 2, 0)}, []int{2}},
		"rising, however it is found":  {[]int{0}, []int{2}, []int{5, 4, 3, 5}, []api.Step{to(2, 5), add(5, 3, 4)}, []int{3, 4, 5}},
		"an output twice":              {nil, []int{2, 2}, []int{2}, nil, []int{2}},
		"the first tick alone asks it": {[]int{0}, []int{2}, nil, []api.Step{add(2, 3, 0), num(3, 0)}, nil},
	} {
		n := of(c.code...)
		n.Ins, n.Outs, n.Keeps = c.ins, c.outs, c.keeps
		f := pruned(t, n)
		if !slices.Equal(f.Keeps, c.want) || !slices.Equal(f.Ins, c.ins) || !slices.Equal(f.Outs, c.outs) {
			t.Errorf("%s: %v; want keeps %v", name, f, c.want)
		}
		same(t, n, f, ticks())
	}
}

// Nothing is told of code without outputs, so that nothing is left of it.
func TestNothing(t *testing.T) {
	n := of(num(2, 0), add(4, 4, 2), neg(6, 4))
	n.Outs = nil
	if f := pruned(t, n); len(f.Code) > 0 || len(f.Keeps) > 0 || len(f.Ins) != 2 {
		t.Errorf("%v is pruned to %v", n, f)
	}
	if f := pruned(t, api.Net{}); f.Places != 0 || len(f.Code) != 0 {
		t.Errorf("nothing is pruned to %v", f)
	}
}

// What Prune tells of what it told is just that.
func TestAgain(t *testing.T) {
	n := of(num(2, 0), to(6, 4), add(4, 4, 5), neg(5, 3), neg(3, 2), add(7, 7, 2), num(2, 2))
	f := pruned(t, n)
	if again := pruned(t, f); !reflect.DeepEqual(again, f) {
		t.Errorf("%v is pruned to %v", f, again)
	}
}

// Promise 10.1: as much code as there may be: all that is kept is for the one
// that is kept ahead of it, so that each is found behind the other; and none of
// it is for anything, but for itself.
func TestFull(t *testing.T) {
	n := api.Net{Places: api.MaxCode, First: make([]int64, api.MaxCode), Outs: []int{0}}
	for place := range api.MaxCode - 1 {
		n.First[place+1] = int64(place)
		n.Keeps = append(n.Keeps, place+1)
		n.Code = append(n.Code, to(place, place+1))
	}
	f := pruned(t, n)
	if !slices.Equal(f.Code, n.Code) || !slices.Equal(f.Keeps, n.Keeps) {
		t.Errorf("%d steps, %d kept", len(f.Code), len(f.Keeps))
	}
	same(t, n, f, ticks())
	for i := range n.Code {
		n.Code[i] = add(i+1, i+1, i)
	}
	if f = pruned(t, n); len(f.Code) > 0 || len(f.Keeps) > 0 {
		t.Errorf("%d steps, %d kept; want none", len(f.Code), len(f.Keeps))
	}
	same(t, n, f, ticks())
}

// Promise 10.1: Check's errors, and nothing else with them.
func TestWrong(t *testing.T) {
	many := make([]int64, api.MaxCode+1)
	for _, c := range []struct {
		n     api.Net
		err   api.Errno
		place int
	}{
		{api.Net{Places: -1}, api.ErrLimit, -1},
		{api.Net{Places: api.MaxCode + 1, First: many}, api.ErrLimit, -1},
		{api.Net{Nums: many}, api.ErrLimit, -1},
		{api.Net{Code: make([]api.Step, api.MaxCode+1)}, api.ErrLimit, -1},
		{api.Net{Places: 1}, api.ErrForm, -1},
		{api.Net{Places: 1, First: []int64{0}, Outs: []int{1}}, api.ErrRange, -1},
		{api.Net{Places: 1, First: []int64{0}, Keeps: []int{-1}}, api.ErrRange, -1},
		{api.Net{Places: 1, First: []int64{0}, Ins: []int{0, 0}}, api.ErrTwice, -1},
		{of(num(0, 3)), api.ErrRange, 0},
		{of(num(0, 0), api.Step{Code: api.Pre}), api.ErrForm, 1},
		{of(num(0, 0), num(0, 0), neg(0, 8)), api.ErrRange, 2},
		{of(num(0, 0), num(8, 0)), api.ErrRange, 1},
		{of(num(0, 0), api.Step{Code: api.Num, C: 1}), api.ErrArg, 1},
	} {
		f, err := Prune(c.n)
		if e, place := plain.Place(err); e != c.err || place != c.place {
			t.Errorf("%.200s: %v at %d; want %v at %d", fmt.Sprint(c.n), e, place, c.err, c.place)
		}
		if !reflect.DeepEqual(f, api.Net{}) {
			t.Errorf("%.200s: %v beside an error", fmt.Sprint(c.n), f)
		}
	}
}

// room is a list with something behind its length.
func room[T any](l []T, behind T) []T {
	return append(slices.Clone(l), behind)[: len(l) : len(l)+1]
}

// spoil writes into all of a list, and behind it.
func spoil[T any](l []T, with T) {
	for i := range l[:cap(l)] {
		l[:cap(l)][i] = with
	}
}

// spoilAll does so with all that code has.
func spoilAll(n api.Net) {
	spoil(n.First, 77)
	spoil(n.Nums, 77)
	spoil(n.Ins, 77)
	spoil(n.Outs, 77)
	spoil(n.Keeps, 77)
	spoil(n.Code, api.Step{Code: 77, A: 77})
}

// Rule P4: what is handed in is not written into, nor behind it; what comes out
// shares nothing with it, nor with what came out ahead.
func TestFresh(t *testing.T) {
	build := func() api.Net {
		return api.Net{
			Places: 3, First: room([]int64{1, 2, 3}, 9), Ins: room([]int{1}, 9), Outs: room([]int{0, 2}, 9), Keeps: room([]int{0, 2}, 9),
			Nums: room([]int64{4, 4}, 9), Code: room([]api.Step{add(0, 0, 1), num(1, 0), add(2, 2, 1)}, api.Step{Code: 9}),
		}
	}
	n := build()
	f := pruned(t, n)
	want := fmt.Sprint(f)
	whole := func(n api.Net) string {
		return fmt.Sprint(n.First[:4], n.Ins[:2], n.Outs[:3], n.Keeps[:3], n.Nums[:3], n.Code[:4])
	}
	if got := whole(n); got != whole(build()) {
		t.Errorf("written into: %s", got)
	}
	spoilAll(n)
	if got := fmt.Sprint(f); got != want {
		t.Errorf("what was handed in is kept: %s; want %s", got, want)
	}
	n = build()
	spoilAll(f)
	if got := fmt.Sprint(pruned(t, n)); got != want {
		t.Errorf("what came out is kept: %s; want %s", got, want)
	}
	// No two lists of it share any memory, either.
	f = pruned(t, build())
	outs, nums := slices.Clone(f.Outs), slices.Clone(f.Nums)
	spoil(f.Ins, 66)
	spoil(f.Keeps, 66)
	spoil(f.First, 66)
	if !slices.Equal(f.Outs, outs) || !slices.Equal(f.Nums, nums) {
		t.Errorf("lists are shared: %v; want Outs %v, Nums %v", f, outs, nums)
	}
}

// Promise 10.1: what Emit tells of a chart is pruned, and tells the same; folded,
// shared or not.
func TestCharts(t *testing.T) {
	must := func(n api.Net, err error) api.Net {
		t.Helper()
		if err != nil {
			t.Fatal(err)
		}
		return n
	}
	for _, text := range []string{
		`chart c { output b; region { initial state s { during b := b + 1; } } }`,
		`chart c { input a; output b := 3; region { initial state s { during b := a * a + a * a; during b := a * a - b / (a * a); } } }`,
		`chart c { input a; output b; var v := 2; region { initial state s { during v := v + a; during b := a; } } }`,
		`chart c { input a; output b; var v := 2; region { initial state s { during v := v + a; during b := pre(v); } } }`,
		`chart c { input a; output b; region { initial state s { entry b := 1 + 1; go immediate if 1 < a --> t; } state t { during b := b * -1; go if count 2 !(1 < a) --> s; } } }`,
	} {
		c, err := parse.Parse(text)
		if err != nil {
			t.Fatalf("%s: %v", text, err)
		}
		n := must(emit.Emit(c))
		folded := must(fold.Fold(n))
		both := must(share.Share(folded))
		ins := [][]int64{{1}, {0}, {5}, nil, {1}, {1}, {0}, {-2}, {4}, {3}}
		for _, old := range []api.Net{n, folded, both} {
			same(t, n, pruned(t, old), ins)
		}
	}
}
