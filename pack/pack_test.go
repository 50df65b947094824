package pack

import (
	"fmt"
	"math"
	"reflect"
	"slices"
	"testing"

	"clepsydra/api"
	"clepsydra/emit"
	"clepsydra/fold"
	"clepsydra/net"
	"clepsydra/parse"
	"clepsydra/plain"
	"clepsydra/prune"
	"clepsydra/share"
)

// packed is what Pack tells of code that may be, held against 11.1 but for what
// its Machine tells.
func packed(t *testing.T, n api.Net) api.Net {
	t.Helper()
	f, err := Pack(n)
	if err != nil {
		t.Fatalf("%.300s: %v", fmt.Sprint(n), err)
	}
	if err := net.Check(f); err != nil {
		t.Fatalf("%.300s is packed to %.300s, which may not be: %v", fmt.Sprint(n), fmt.Sprint(f), err)
	}
	if len(f.Ins) != len(n.Ins) || len(f.Outs) != len(n.Outs) || !slices.Equal(codes(f), codes(n)) {
		t.Errorf("%.300s is packed to %.300s", fmt.Sprint(n), fmt.Sprint(f))
	}
	if most := most(n); f.Places > n.Places || f.Places > most {
		t.Errorf("%.300s is packed to %.300s: %d places; want %d at most", fmt.Sprint(n), fmt.Sprint(f), f.Places, most)
	}
	if want := used(n); !slices.Equal(f.Nums, want) {
		t.Errorf("%.300s is packed to %.300s: numbers %v; want %v", fmt.Sprint(n), fmt.Sprint(f), f.Nums, want)
	}
	return f
}

// codes are the steps'.
func codes(n api.Net) []int {
	var l []int
	for _, s := range n.Code {
		l = append(l, s.Code)
	}
	return l
}

// used are the numbers that steps have, rising, each once.
func used(n api.Net) []int64 {
	seen := map[int64]bool{}
	for _, s := range n.Code {
		if s.Code == api.Num {
			seen[n.Nums[s.A]] = true
		}
	}
	var l []int64
	for number := range seen {
		l = append(l, number)
	}
	slices.Sort(l)
	return l
}

// span is of a place: the first step that puts something there, the last one that
// asks it, and whether one asks it ahead of all that put.
type span struct {
	put, ask int
	ahead    bool
}

func spans(n api.Net) []span {
	l := slices.Repeat([]span{{put: len(n.Code), ask: -1}}, n.Places)
	for i, s := range n.Code {
		for _, place := range net.Asks(s) {
			l[place].ask = i
			l[place].ahead = l[place].ahead || i <= l[place].put
		}
		l[s.Dst].put = min(l[s.Dst].put, i)
	}
	return l
}

// lasts are the places that 11.1 counts first.
func lasts(n api.Net) map[int]bool {
	l := map[int]bool{}
	for _, places := range [][]int{n.Ins, n.Outs, n.Keeps} {
		for _, place := range places {
			l[place] = true
		}
	}
	for place, s := range spans(n) {
		if s.ahead {
			l[place] = true
		}
	}
	return l
}

// most is how many places there may be, by the words of 11.1.
func most(n api.Net) int {
	last, spans := lasts(n), spans(n)
	beside := 0
	for i, s := range n.Code {
		many := 0
		for place, at := range spans {
			if !last[place] && (at.put <= i && i <= at.ask || place == s.Dst) {
				many++
			}
		}
		beside = max(beside, many)
	}
	return len(last) + beside
}

// same fails the test unless two codes tell the same of these.
func same(t *testing.T, n, f api.Net, ins [][]int64) {
	t.Helper()
	one, err := net.New(n)
	two, err2 := net.New(f)
	if err != nil || err2 != nil {
		t.Fatalf("%.300s: %v; %.300s: %v", fmt.Sprint(n), err, fmt.Sprint(f), err2)
	}
	for i, told := range ins {
		if want, got := one.Tick(told), two.Tick(told); !slices.Equal(got, want) {
			t.Fatalf("%.600s is packed to %.600s: tick %d of %v: %v; want %v", fmt.Sprint(n), fmt.Sprint(f), i, ins, got, want)
		}
	}
}

// num puts a number at a place; to copies one, add, neg and pick make something.
func num(place, a int) api.Step        { return api.Step{Code: api.Num, Dst: place, A: a} }
func to(place, a int) api.Step         { return api.Step{Code: api.Var, Dst: place, A: a} }
func neg(place, a int) api.Step        { return api.Step{Code: api.Neg, Dst: place, A: a} }
func add(place, a, b int) api.Step     { return api.Step{Code: api.Add, Dst: place, A: a, B: b} }
func pick(place, a, b, c int) api.Step { return api.Step{Code: api.Pick, Dst: place, A: a, B: b, C: c} }

// of is code of ten places: 9 is told ahead, 8 is kept, 7 is told: these last.
func of(code ...api.Step) api.Net {
	return api.Net{
		Places: 10, First: []int64{3, 1, 4, 1, 5, 9, 2, 6, 5, 3}, Ins: []int{9}, Outs: []int{7}, Keeps: []int{8},
		Nums: []int64{7, -2, 7}, Code: code,
	}
}

// ticks are some that may be told.
func ticks() [][]int64 { return [][]int64{{3, 8}, nil, {-1}, {2, 2, 9}, {5}, {0, 6}} }

// Promise 11.1: how many places there are beside the three that last.
func TestPlaces(t *testing.T) {
	for name, c := range map[string]struct {
		code   []api.Step
		beside int
	}{
		"nothing":                                {nil, 0},
		"those that last alone":                  {[]api.Step{add(8, 8, 9), to(7, 8), neg(9, 7)}, 0},
		"one that is asked":                      {[]api.Step{neg(0, 9), to(7, 0)}, 1},
		"one that nobody asks":                   {[]api.Step{neg(0, 9)}, 1},
		"several that nobody asks":               {[]api.Step{neg(0, 9), neg(1, 9), num(2, 0)}, 1},
		"one put over that nobody asked":         {[]api.Step{neg(0, 9), num(0, 0), to(7, 0)}, 1},
		"one behind the other":                   {[]api.Step{neg(0, 9), neg(1, 0), neg(2, 1), neg(3, 2), to(7, 3)}, 1},
		"one made of itself":                     {[]api.Step{neg(0, 9), neg(0, 0), add(0, 0, 0), to(7, 0)}, 1},
		"two at once":                            {[]api.Step{neg(0, 9), num(1, 0), add(7, 0, 1)}, 2},
		"two at once, over and again":            {[]api.Step{neg(0, 9), num(1, 0), add(2, 0, 1), num(3, 1), add(4, 2, 3), num(5, 0), add(7, 4, 5)}, 2},
		"three at once":                          {[]api.Step{neg(0, 9), num(1, 0), num(2, 1), pick(3, 0, 1, 2), to(7, 3)}, 3},
		"one that nobody asks, between":          {[]api.Step{neg(0, 9), num(1, 0), to(7, 0)}, 2},
		"what is asked for the last time":        {[]api.Step{neg(0, 9), neg(1, 0), add(7, 1, 0)}, 2},
		"one that is put again":                  {[]api.Step{neg(0, 9), to(7, 0), neg(1, 9), add(7, 7, 1), num(0, 0), add(7, 7, 0)}, 1},
		"asked ahead of what puts it":            {[]api.Step{to(7, 0), num(0, 1), num(1, 0), add(7, 0, 1)}, 2},
		"asked by what puts it first":            {[]api.Step{add(0, 0, 9), to(7, 0), num(1, 0), add(7, 7, 1)}, 2},
		"asked, and never put":                   {[]api.Step{add(7, 3, 4), to(7, 5)}, 3},
		"asked ahead by what nobody asks":        {[]api.Step{neg(1, 0), num(0, 0), to(7, 0)}, 2},
		"asked behind what puts it":              {[]api.Step{num(0, 1), to(7, 0), num(1, 0), add(7, 7, 1)}, 1},
		"a number's place is no place":           {[]api.Step{neg(2, 9), to(7, 2), num(7, 2)}, 1},
		"it is there for long":                   {[]api.Step{neg(0, 9), neg(1, 9), to(7, 1), neg(2, 7), add(7, 2, 0), add(7, 7, 0)}, 2},
		"two that are asked at once, as one":     {[]api.Step{neg(0, 9), pick(1, 0, 0, 0), add(1, 1, 1), to(7, 1)}, 1},
		"those that last are not laid upon":      {[]api.Step{num(7, 0), num(0, 1), add(8, 8, 0), num(9, 0), num(1, 0), to(9, 1)}, 1},
		"it is put again while another is there": {[]api.Step{neg(0, 9), neg(1, 0), neg(0, 9), add(7, 1, 0), neg(2, 7), add(7, 2, 9)}, 2},
	} {
		n := of(c.code...)
		f := packed(t, n)
		if f.Places != 3+c.beside {
			t.Errorf("%s: %v: %d beside; want %d", name, f, f.Places-3, c.beside)
		}
		same(t, n, f, ticks())
	}
}

// Promise 11.1: what lasts, and that it is what it was at first.
func TestLasting(t *testing.T) {
	for name, c := range map[string]struct {
		ins, outs, keeps []int
		code             []api.Step
		first            []int64
	}{
		"nothing":                         {nil, nil, nil, nil, nil},
		"an input":                        {[]int{5}, nil, nil, nil, []int64{9}},
		"an output that none puts":        {nil, []int{4}, nil, nil, []int64{5}},
		"an output twice":                 {nil, []int{4, 6, 4}, nil, nil, []int64{5, 2}},
		"what is kept, and never asked":   {nil, nil, []int{6}, nil, []int64{2}},
		"what is kept twice":              {nil, nil, []int{6, 2, 6}, nil, []int64{4, 2}},
		"one of each":                     {[]int{6}, []int{5}, []int{4}, nil, []int64{5, 9, 2}},
		"one that is all":                 {[]int{5}, []int{5}, []int{5}, []api.Step{neg(5, 5)}, []int64{9}},
		"what is asked":                   {nil, []int{7}, nil, []api.Step{add(7, 2, 6)}, []int64{4, 2, 6}},
		"what is asked, and put then":     {nil, []int{7}, nil, []api.Step{to(7, 2), num(2, 0)}, []int64{4, 6}},
		"what asks itself":                {nil, []int{7}, nil, []api.Step{neg(5, 5), to(7, 5)}, []int64{9, 6}},
		"what is put ahead":               {nil, []int{7}, nil, []api.Step{num(5, 0), to(7, 5)}, []int64{6, 0}},
		"an output beside what is spare":  {nil, []int{7, 4}, nil, []api.Step{num(5, 0), to(7, 5)}, []int64{5, 6, 0}},
		"what is told is not what is put": {[]int{9, 0}, []int{7}, nil, []api.Step{num(0, 0), add(7, 9, 0)}, []int64{3, 6, 3}},
	} {
		n := of(c.code...)
		n.Ins, n.Outs, n.Keeps = c.ins, c.outs, c.keeps
		f := packed(t, n)
		if !slices.Equal(f.First, c.first) || f.Places != len(c.first) {
			t.Errorf("%s: %v; want first %v", name, f, c.first)
		}
		if len(f.Keeps) > len(n.Keeps) {
			t.Errorf("%s: %v: %d kept; want %d at most", name, f, len(f.Keeps), len(n.Keeps))
		}
		same(t, n, f, ticks())
	}
}

// Promise 11.1: as few numbers as there can be, rising.
func TestNums(t *testing.T) {
	for name, c := range map[string]struct {
		nums []int64
		code []api.Step
		want []int64
	}{
		"none":                         {nil, nil, nil},
		"none that a step has":         {[]int64{3, 1}, []api.Step{neg(7, 9)}, nil},
		"one":                          {[]int64{3, 1}, []api.Step{num(7, 1)}, []int64{1}},
		"one twice":                    {[]int64{3, 1}, []api.Step{num(7, 1), num(8, 1)}, []int64{1}},
		"one that is there twice":      {[]int64{3, 1, 3}, []api.Step{num(7, 2), num(8, 0)}, []int64{3}},
		"falling":                      {[]int64{3, 1, -3}, []api.Step{num(7, 0), num(8, 2), num(9, 1)}, []int64{-3, 1, 3}},
		"rising, and one that is none": {[]int64{-3, 0, 1}, []api.Step{num(7, 0), num(8, 2)}, []int64{-3, 1}},
		"at the bounds": {[]int64{math.MaxInt64, 0, math.MinInt64, -1}, []api.Step{num(7, 0), add(7, 7, 9), num(8, 2), add(7, 7, 8), num(9, 3), add(7, 7, 9), num(9, 1)},
			[]int64{math.MinInt64, -1, 0, math.MaxInt64}},
		"of a step that nobody asks": {[]int64{4, 2}, []api.Step{num(0, 0), num(7, 1)}, []int64{2, 4}},
	} {
		n := of(c.code...)
		n.Nums = c.nums
		f := packed(t, n)
		if !slices.Equal(f.Nums, c.want) {
			t.Errorf("%s: %v; want %v", name, f.Nums, c.want)
		}
		same(t, n, f, ticks())
	}
}

// Promise 11.1: of each code, what it asks is moved, one by one, and where it puts
// what it makes.
func TestCodes(t *testing.T) {
	for code := api.Num; code <= api.Pick; code++ {
		if code == api.Pre {
			continue
		}
		for _, asked := range [][]int{{4, 2, 6}, {2, 6, 4}, {6, 4, 2}, {2, 2, 4}, {4, 2, 2}, {6, 2, 6}, {9, 8, 2}} {
			s := api.Step{Code: code, Dst: 3}
			for i := range net.Asks(s) {
				*[]*int{&s.A, &s.B, &s.C}[i] = asked[i]
			}
			n := of(neg(2, 9), add(4, 9, 2), add(6, 4, 4), s, to(7, 3), add(8, 8, 9))
			same(t, n, packed(t, n), ticks())
			s.Dst = asked[0]
			n = of(neg(2, 9), add(4, 9, 2), add(6, 4, 4), s, to(7, asked[0]), add(8, 8, 9))
			same(t, n, packed(t, n), ticks())
		}
	}
}

// What Pack tells of what it told is just that.
func TestAgain(t *testing.T) {
	n := of(neg(0, 9), num(1, 0), add(2, 0, 1), to(7, 3), num(3, 2), pick(4, 2, 3, 3), add(5, 4, 1), add(8, 8, 5), num(6, 1))
	f := packed(t, n)
	if again := packed(t, f); !reflect.DeepEqual(again, f) {
		t.Errorf("%v is packed to %v", f, again)
	}
}

// Promise 11.1: as much code as there may be: of all places but those that last one
// is busy at once, or half of them, or each lasts.
func TestFull(t *testing.T) {
	n := api.Net{Places: api.MaxCode, First: make([]int64, api.MaxCode), Ins: []int{0}, Outs: []int{api.MaxCode - 1}}
	for place := range api.MaxCode - 1 {
		n.Code = append(n.Code, neg(place+1, place))
	}
	f := packed(t, n)
	if f.Places != 3 {
		t.Errorf("one behind the other: %d places", f.Places)
	}
	same(t, n, f, ticks())

	half := api.MaxCode / 2
	n.Code = nil
	for place := range half - 1 {
		n.Code = append(n.Code, neg(place+1, place))
	}
	for place := range half {
		n.Code = append(n.Code, add(api.MaxCode-1, api.MaxCode-1, place))
	}
	f = packed(t, n)
	if f.Places != half+1 {
		t.Errorf("all at once: %d places", f.Places)
	}
	same(t, n, f, ticks())

	n.Code = nil
	for place := range api.MaxCode {
		n.First[place] = int64(place)
		n.Nums = append(n.Nums, int64(-place))
		n.Code = append(n.Code, add(api.MaxCode-1, place, api.MaxCode-1))
	}
	f = packed(t, n)
	if f.Places != api.MaxCode || len(f.Nums) != 0 {
		t.Errorf("all from the first: %d places, %d numbers", f.Places, len(f.Nums))
	}
	same(t, n, f, ticks())

	for i := range n.Code {
		n.Code[i] = num(i, i)
	}
	f = packed(t, n)
	if f.Places != 3 || len(f.Nums) != api.MaxCode {
		t.Errorf("all numbers: %d places, %d numbers", f.Places, len(f.Nums))
	}
	same(t, n, f, ticks())
}

// Promise 11.1: Check's errors, and nothing else with them.
func TestWrong(t *testing.T) {
	many := make([]int64, api.MaxCode+1)
	for _, c := range []struct {
		n     api.Net
		err   api.Errno
		place int
	}{
		{api.Net{Places: -1}, api.ErrLimit, -1},
		{api.Net{Places: math.MinInt}, api.ErrLimit, -1},
		{api.Net{Places: math.MaxInt}, api.ErrLimit, -1},
		{api.Net{Places: api.MaxCode + 1, First: many}, api.ErrLimit, -1},
		{api.Net{Nums: many}, api.ErrLimit, -1},
		{api.Net{Code: make([]api.Step, api.MaxCode+1)}, api.ErrLimit, -1},
		{api.Net{Places: 1, First: []int64{0}, Keeps: make([]int, api.MaxCode), Outs: []int{0}}, api.ErrLimit, -1},
		{api.Net{Places: 1}, api.ErrForm, -1},
		{api.Net{Places: 1, First: []int64{0, 0}}, api.ErrForm, -1},
		{api.Net{Places: 1, First: []int64{0}, Ins: []int{1}}, api.ErrRange, -1},
		{api.Net{Places: 1, First: []int64{0}, Outs: []int{1}}, api.ErrRange, -1},
		{api.Net{Places: 1, First: []int64{0}, Keeps: []int{-1}}, api.ErrRange, -1},
		{api.Net{Places: 1, First: []int64{0}, Ins: []int{0, 0}}, api.ErrTwice, -1},
		{of(num(0, 3)), api.ErrRange, 0},
		{of(num(0, -1)), api.ErrRange, 0},
		{of(num(0, 0), api.Step{Code: api.Pre}), api.ErrForm, 1},
		{of(num(0, 0), num(0, 0), neg(0, 10)), api.ErrRange, 2},
		{of(num(0, 0), num(10, 0)), api.ErrRange, 1},
		{of(num(0, 0), api.Step{Code: api.Num, C: 1}), api.ErrArg, 1},
	} {
		f, err := Pack(c.n)
		if e, place := plain.Place(err); e != c.err || place != c.place {
			t.Errorf("%.200s: %v at %d; want %v at %d", fmt.Sprint(c.n), e, place, c.err, c.place)
		}
		if !reflect.DeepEqual(f, api.Net{}) {
			t.Errorf("%.200s: %v beside an error", fmt.Sprint(c.n), f)
		}
	}
}

// room is a list with something behind its length.
func room[T any](l []T, behind T) []T {
	return append(slices.Clone(l), behind)[: len(l) : len(l)+1]
}

// spoil writes into all of a list, and behind it.
func spoil[T any](l []T, with T) {
	for i := range l[:cap(l)] {
		l[:cap(l)][i] = with
	}
}

// spoilAll does so with all that code has.
func spoilAll(n api.Net) {
	spoil(n.First, 77)
	spoil(n.Nums, 77)
	spoil(n.Ins, 77)
	spoil(n.Outs, 77)
	spoil(n.Keeps, 77)
	spoil(n.Code, api.Step{Code: 77, A: 77})
}

// Rule P4: what is handed in is not written into, nor behind it; what comes out
// shares nothing with it, nor with what came out ahead.
func TestFresh(t *testing.T) {
	build := func() api.Net {
		return api.Net{
			Places: 4, First: room([]int64{1, 2, 3, 4}, 9), Ins: room([]int{1}, 9), Outs: room([]int{0, 2}, 9), Keeps: room([]int{2, 0}, 9),
			Nums: room([]int64{8, 4}, 9), Code: room([]api.Step{add(0, 0, 1), num(3, 0), num(1, 1), add(2, 2, 3)}, api.Step{Code: 9}),
		}
	}
	n := build()
	f := packed(t, n)
	want := fmt.Sprint(f)
	whole := func(n api.Net) string {
		return fmt.Sprint(n.First[:5], n.Ins[:2], n.Outs[:3], n.Keeps[:3], n.Nums[:3], n.Code[:5])
	}
	if got := whole(n); got != whole(build()) {
		t.Errorf("written into: %s", got)
	}
	spoilAll(n)
	if got := fmt.Sprint(f); got != want {
		t.Errorf("what was handed in is kept: %s; want %s", got, want)
	}
	n = build()
	spoilAll(f)
	if got := fmt.Sprint(packed(t, n)); got != want {
		t.Errorf("what came out is kept: %s; want %s", got, want)
	}
	// No two lists of it share any memory, either.
	f = packed(t, build())
	outs, nums := slices.Clone(f.Outs), slices.Clone(f.Nums)
	spoil(f.Ins, 66)
	spoil(f.Keeps, 66)
	spoil(f.First, 66)
	if !slices.Equal(f.Outs, outs) || !slices.Equal(f.Nums, nums) {
		t.Errorf("lists are shared: %v; want Outs %v, Nums %v", f, outs, nums)
	}
}

// Promise 11.1: what Emit tells of a chart is packed, and tells the same; folded,
// shared, pruned or not.
func TestCharts(t *testing.T) {
	must := func(n api.Net, err error) api.Net {
		t.Helper()
		if err != nil {
			t.Fatal(err)
		}
		return n
	}
	less := 0
	for _, text := range []string{
		`chart c { output b; region { initial state s { during b := b + 1; } } }`,
		`chart c { input a; output b := 3; region { initial state s { during b := a * a + a * a; during b := a * a - b / (a * a); } } }`,
		`chart c { input a; output b; var v := 2; region { initial state s { during v := v + a; during b := pre(v); } } }`,
		`chart c { input a; output b; region { initial state s { entry b := 1 + 1; go immediate if 1 < a --> t; } state t { during b := b * -1; go if count 2 !(1 < a) --> s; } } }`,
		`chart c { input a; output b; output d; region { initial state s { during b := b + a; go if a == 5 --> t; region { initial state u { go if a --> w; } state w { entry d := d + 7; } } } state t { abort if !a --> s history; } } }`,
	} {
		c, err := parse.Parse(text)
		if err != nil {
			t.Fatalf("%s: %v", text, err)
		}
		n := must(emit.Emit(c))
		folded := must(fold.Fold(n))
		shared := must(share.Share(folded))
		pruned := must(prune.Prune(shared))
		ins := [][]int64{{1}, {0}, {5}, nil, {1}, {1}, {0}, {-2}, {4}, {3}}
		for _, old := range []api.Net{n, folded, shared, pruned} {
			f := packed(t, old)
			same(t, n, f, ins)
			less += old.Places - f.Places
		}
	}
	if less == 0 {
		t.Error("no chart's code has a place less")
	}
}
