package image

import (
	"fmt"
	"math"
	"reflect"
	"slices"
	"strings"
	"testing"

	"clepsydra/api"
	"clepsydra/emit"
	"clepsydra/fold"
	"clepsydra/net"
	"clepsydra/pack"
	"clepsydra/parse"
	"clepsydra/plain"
	"clepsydra/prune"
	"clepsydra/share"
)

// written is what Write tells of code that may be; what Read tells of that is the code.
func written(t *testing.T, n api.Net) string {
	t.Helper()
	s, err := Write(n)
	if err != nil {
		t.Fatalf("%.300s: %v", fmt.Sprint(n), err)
	}
	if got := readBack(t, s); !alike(got, n) {
		t.Fatalf("%.300s is written %.300q, which is read as %.300s", fmt.Sprint(n), s, fmt.Sprint(got))
	}
	return s
}

// readBack is what Read tells of bytes that are code; what Write tells of that is they.
func readBack(t *testing.T, s string) api.Net {
	t.Helper()
	n, err := Read(s)
	if err != nil {
		t.Fatalf("%.300q: %v", s, err)
	}
	if got, err := Write(n); err != nil || got != s {
		t.Fatalf("%.300q is read as %.300s, which is written %.300q (%v)", s, fmt.Sprint(n), got, err)
	}
	return n
}

// alike is whether two codes are the same, but that an empty list may be nil or not.
func alike(a, b api.Net) bool {
	return a.Places == b.Places && slices.Equal(a.First, b.First) && slices.Equal(a.Ins, b.Ins) && slices.Equal(a.Outs, b.Outs) &&
		slices.Equal(a.Keeps, b.Keeps) && slices.Equal(a.Nums, b.Nums) && slices.Equal(a.Code, b.Code)
}

// refused fails the test unless Read tells just this error, at this place (-1: none).
func refused(t *testing.T, name, s string, err api.Errno, place int) {
	t.Helper()
	n, got := Read(s)
	if e, at := plain.Place(got); e != err || at != place {
		t.Errorf("%s: %.100q: %v at %d; want %v at %d", name, s, e, at, err, place)
	}
	if err != api.OK && !reflect.DeepEqual(n, api.Net{}) {
		t.Errorf("%s: %.100q: %v beside an error", name, s, n)
	}
}

// clp is the head, and bytes behind it.
func clp(l ...byte) string { return "CLP1" + string(l) }

// The document's example 12.
func TestExample(t *testing.T) {
	want := string([]byte{'C', 'L', 'P', '1', 2, 2, 1, 0, 0, 0, 0, 0})
	if got := written(t, api.Net{Places: 1, First: []int64{-1}}); got != want {
		t.Errorf("%q; want %q", got, want)
	}
}

// Promise 12.1: the bytes that a number is, wherever it stands.
func TestPut(t *testing.T) {
	ff := slices.Repeat([]byte{255}, 8)
	for _, c := range []struct {
		number int64
		want   []byte
	}{
		{0, []byte{0}}, {-1, []byte{1}}, {1, []byte{2}}, {-2, []byte{3}}, {2, []byte{4}},
		{63, []byte{126}}, {-64, []byte{127}}, {64, []byte{128, 1}}, {-65, []byte{129, 1}}, {65, []byte{130, 1}},
		{127, []byte{254, 1}}, {-128, []byte{255, 1}}, {128, []byte{128, 2}}, {-129, []byte{129, 2}},
		{4000, []byte{192, 62}}, {8191, []byte{254, 127}}, {-8192, []byte{255, 127}}, {8192, []byte{128, 128, 1}}, {-8193, []byte{129, 128, 1}},
		{1 << 31, []byte{128, 128, 128, 128, 16}}, {-1 << 31, []byte{255, 255, 255, 255, 15}},
		{1<<62 - 1, append([]byte{254}, append(slices.Clone(ff[:7]), 127)...)},
		{-1 << 62, append(slices.Clone(ff), 127)},
		{1 << 62, []byte{128, 128, 128, 128, 128, 128, 128, 128, 128, 1}},
		{-1<<62 - 1, []byte{129, 128, 128, 128, 128, 128, 128, 128, 128, 1}},
		{math.MaxInt64, append([]byte{254}, append(slices.Clone(ff), 1)...)},
		{math.MinInt64, append(slices.Clone(ff), 255, 1)},
	} {
		want := clp(slices.Concat([]byte{2, 2}, c.want, []byte{0, 0, 0, 0, 0})...)
		if got := written(t, api.Net{Places: 1, First: []int64{c.number}}); got != want {
			t.Errorf("%d at first: %q; want %q", c.number, got, want)
		}
		want = clp(slices.Concat([]byte{0, 0, 0, 0, 0, 4}, c.want, []byte{0, 0})...)
		if got := written(t, api.Net{Nums: []int64{c.number, 0}}); got != want {
			t.Errorf("%d of the numbers: %q; want %q", c.number, got, want)
		}
	}
}

// Promise 12.1: all that code has, in its order.
func TestAll(t *testing.T) {
	for _, c := range []struct {
		n    api.Net
		want []byte
	}{
		{api.Net{}, []byte{0, 0, 0, 0, 0, 0, 0}},
		{api.Net{First: []int64{}, Ins: []int{}, Outs: []int{}, Keeps: []int{}, Nums: []int64{}, Code: []api.Step{}}, []byte{0, 0, 0, 0, 0, 0, 0}},
		{api.Net{Places: 3, First: []int64{0, 7, -7}}, []byte{6, 6, 0, 14, 13, 0, 0, 0, 0, 0}},
		{api.Net{Places: 3, First: []int64{0, 0, 0}, Ins: []int{2, 0}}, []byte{6, 6, 0, 0, 0, 4, 4, 0, 0, 0, 0, 0}},
		{api.Net{Places: 3, First: []int64{0, 0, 0}, Outs: []int{2, 0, 2}}, []byte{6, 6, 0, 0, 0, 0, 6, 4, 0, 4, 0, 0, 0}},
		{api.Net{Places: 3, First: []int64{0, 0, 0}, Keeps: []int{1, 1}}, []byte{6, 6, 0, 0, 0, 0, 0, 4, 2, 2, 0, 0}},
		{api.Net{Nums: []int64{5, 5, -6}}, []byte{0, 0, 0, 0, 0, 6, 10, 10, 11, 0}},
		{api.Net{
			Places: 5, First: []int64{9, 8, 7, 6, 5}, Ins: []int{4}, Outs: []int{3, 2}, Keeps: []int{1, 0, 3}, Nums: []int64{-9, 70},
			Code: []api.Step{
				{Code: api.Num, Dst: 4, A: 1},
				{Code: api.Var, Dst: 3, A: 2},
				{Code: api.Sub, Dst: 2, A: 4, B: 1},
				{Code: api.Pick, Dst: 1, A: 4, B: 3, C: 2},
				{Code: api.Num},
			},
		}, []byte{
			10, 10, 18, 16, 14, 12, 10, 2, 8, 4, 6, 4, 6, 2, 0, 6, 4, 17, 140, 1, 10,
			2, 8, 2, 4, 6, 4, 14, 4, 8, 2, 34, 2, 8, 6, 4, 2, 0, 0,
		}},
	} {
		if got := written(t, c.n); got != clp(c.want...) {
			t.Errorf("%v: %q; want %q", c.n, got, clp(c.want...))
		}
	}
}

// bare is code of 70 places, of which all numbers from 64 on take two bytes, and its
// bytes but for its steps and how many they are.
func bare() (api.Net, []byte) {
	n := api.Net{Places: 70, First: make([]int64, 70), Nums: make([]int64, 70)}
	b := slices.Concat([]byte{140, 1, 140, 1}, make([]byte, 70), []byte{0, 0, 0, 140, 1}, make([]byte, 70))
	return n, b
}

// Promise 12.1: of each code where it puts something, and what it asks, and no more.
func TestSteps(t *testing.T) {
	n, b := bare()
	for code := api.Num; code <= api.Pick; code++ {
		many := 2
		switch code {
		case api.Pre:
			continue
		case api.Num, api.Var, api.Neg, api.Not:
			many = 1
		case api.Pick:
			many = 3
		}
		s := api.Step{Code: code, Dst: 66}
		want := append(slices.Clone(b), 2, byte(2*code), 132, 1)
		for i, at := range []*int{&s.A, &s.B, &s.C}[:many] {
			*at = []int{69, 5, 64}[i]
			want = append(want, [][]byte{{138, 1}, {10}, {128, 1}}[i]...)
		}
		n.Code = []api.Step{s}
		if got := written(t, n); got != clp(want...) {
			t.Errorf("code %d: %q; want %q", code, got[150:], clp(want...)[150:])
		}
	}
}

// Promise 12.1: ErrForm of bytes that Write does not tell of any code, of which each
// one is nearly so.
func TestForm(t *testing.T) {
	for name, s := range map[string]string{
		"nothing":                          "",
		"a piece of the head":              "CLP",
		"the head alone":                   "CLP1",
		"another head":                     "CLP2\x00\x00\x00\x00\x00\x00\x00",
		"no head":                          "\x00\x00\x00\x00\x00\x00\x00",
		"small letters":                    "clp1\x00\x00\x00\x00\x00\x00\x00",
		"a blank ahead":                    " CLP1\x00\x00\x00\x00\x00\x00\x00",
		"no steps":                         clp(0, 0, 0, 0, 0, 0),
		"something behind":                 clp(0, 0, 0, 0, 0, 0, 0, 0),
		"a line's end behind":              clp(0, 0, 0, 0, 0, 0, 0, '\n'),
		"it twice":                         clp(0, 0, 0, 0, 0, 0, 0) + clp(0, 0, 0, 0, 0, 0, 0),
		"0 in two bytes":                   clp(128, 0, 0, 0, 0, 0, 0, 0),
		"0 in three bytes":                 clp(128, 128, 0, 0, 0, 0, 0, 0, 0),
		"0 in ten bytes":                   clp(0, 0, 0, 0, 0, 2, 128, 128, 128, 128, 128, 128, 128, 128, 128, 0, 0),
		"1 in two bytes":                   clp(130, 0, 2, 0, 0, 0, 0, 0, 0),
		"-1 in two bytes":                  clp(2, 2, 129, 0, 0, 0, 0, 0, 0),
		"64 in three bytes":                clp(2, 2, 128, 129, 0, 0, 0, 0, 0, 0),
		"how many steps, in two bytes":     clp(0, 0, 0, 0, 0, 0, 128, 0),
		"a step's code in two bytes":       clp(2, 2, 0, 0, 0, 0, 0, 2, 136, 0, 0, 0),
		"what a step asks, in two bytes":   clp(2, 2, 0, 0, 0, 0, 0, 2, 4, 0, 128, 0),
		"a number that does not end":       clp(0, 0, 0, 0, 0, 0, 128),
		"a number of 65 bits":              clp(0, 0, 0, 0, 0, 2, 128, 128, 128, 128, 128, 128, 128, 128, 128, 2, 0),
		"64 bits, and one beyond":          clp(0, 0, 0, 0, 0, 2, 255, 255, 255, 255, 255, 255, 255, 255, 255, 3, 0),
		"70 bits":                          clp(0, 0, 0, 0, 0, 2, 255, 255, 255, 255, 255, 255, 255, 255, 255, 127, 0),
		"eleven bytes":                     clp(0, 0, 0, 0, 0, 2, 128, 128, 128, 128, 128, 128, 128, 128, 128, 129, 0, 0),
		"eleven bytes of noughts":          clp(128, 128, 128, 128, 128, 128, 128, 128, 128, 128, 0, 0, 0, 0, 0, 0, 0),
		"places below 0":                   clp(1, 0, 0, 0, 0, 0, 0),
		"first numbers below 0":            clp(0, 1, 0, 0, 0, 0, 0),
		"inputs below 0":                   clp(0, 0, 1, 0, 0, 0, 0),
		"outputs below 0":                  clp(0, 0, 0, 1, 0, 0, 0),
		"keeps below 0":                    clp(0, 0, 0, 0, 1, 0, 0),
		"numbers below 0":                  clp(0, 0, 0, 0, 0, 1, 0),
		"steps below 0":                    clp(0, 0, 0, 0, 0, 0, 1),
		"an input below 0":                 clp(2, 2, 0, 2, 1, 0, 0, 0, 0),
		"an output below 0":                clp(2, 2, 0, 0, 2, 1, 0, 0, 0),
		"a keep below 0":                   clp(2, 2, 0, 0, 0, 2, 1, 0, 0),
		"a code below 0":                   clp(2, 2, 0, 0, 0, 0, 0, 2, 1, 0, 0),
		"a step that puts below 0":         clp(2, 2, 0, 0, 0, 0, 0, 2, 4, 1, 0),
		"a step that asks below 0":         clp(2, 2, 0, 0, 0, 0, 0, 2, 4, 0, 1),
		"its second one below 0":           clp(2, 2, 0, 0, 0, 0, 0, 2, 12, 0, 0, 1),
		"its third one below 0":            clp(2, 2, 0, 0, 0, 0, 0, 2, 34, 0, 0, 0, 1),
		"the least number of places":       clp(255, 255, 255, 255, 255, 255, 255, 255, 255, 1, 0, 0, 0, 0, 0, 0),
		"the greatest number of places":    clp(254, 255, 255, 255, 255, 255, 255, 255, 255, 1, 0, 0, 0, 0, 0, 0),
		"as many steps as there can be":    clp(0, 0, 0, 0, 0, 0, 254, 255, 255, 255, 255, 255, 255, 255, 255, 1),
		"2^32 inputs":                      clp(0, 0, 128, 128, 128, 128, 32, 0, 0, 0, 0),
		"an input at 2^32":                 clp(2, 2, 0, 2, 128, 128, 128, 128, 32, 0, 0, 0, 0),
		"fewer first numbers than told":    clp(4, 4, 0, 0, 0, 0, 0, 0),
		"fewer steps than told":            clp(2, 2, 0, 0, 0, 0, 0, 4, 4, 0, 0),
		"more steps than told":             clp(2, 2, 0, 0, 0, 0, 0, 2, 4, 0, 0, 4, 0, 0),
		"a sum of one":                     clp(2, 2, 0, 0, 0, 0, 0, 2, 12, 0, 0),
		"a sum of three":                   clp(2, 2, 0, 0, 0, 0, 0, 2, 12, 0, 0, 0, 0),
		"a number's step without a number": clp(2, 2, 0, 0, 0, 0, 2, 0, 2, 2, 0),
		"a number's step of two":           clp(2, 2, 0, 0, 0, 0, 2, 0, 2, 2, 0, 0, 0),
		"no code, and what it asks":        clp(2, 2, 0, 0, 0, 0, 0, 2, 6, 0, 0),
		"no code, and nothing":             clp(2, 2, 0, 0, 0, 0, 0, 2, 0),
	} {
		refused(t, name, s, api.ErrForm, -1)
	}
}

// most is MaxCode, more is 1 more; both as they are put.
var (
	most = []byte{192, 62}
	more = []byte{194, 62}
)

// Promise 12.1: what must be from 0 to MaxCode may be MaxCode, and is ErrForm, without
// a place, beyond it; what Check has to say of MaxCode is behind that.
func TestBounds(t *testing.T) {
	all := func(l ...[]byte) string { return clp(slices.Concat(l...)...) }
	noughts := make([]byte, api.MaxCode+1)
	for name, c := range map[string]struct {
		ahead, behind []byte
		many          bool // it is how many there are: they stand ahead of what is behind
		err           api.Errno
		place         int
	}{
		"places":          {nil, []byte{0, 0, 0, 0, 0, 0}, false, api.ErrForm, -1}, // no first numbers
		"first numbers":   {[]byte{192, 62}, []byte{0, 0, 0, 0, 0}, true, api.OK, -1},
		"inputs":          {[]byte{2, 2, 0}, []byte{0, 0, 0, 0}, true, api.ErrTwice, -1},
		"outputs":         {[]byte{2, 2, 0, 0}, []byte{0, 0, 0}, true, api.OK, -1},
		"keeps":           {[]byte{2, 2, 0, 0, 0}, []byte{0, 0}, true, api.OK, -1},
		"numbers":         {[]byte{0, 0, 0, 0, 0}, []byte{0}, true, api.OK, -1},
		"an input":        {[]byte{2, 2, 0, 2}, []byte{0, 0, 0, 0}, false, api.ErrRange, -1},
		"an output":       {[]byte{2, 2, 0, 0, 2}, []byte{0, 0, 0}, false, api.ErrRange, -1},
		"a keep":          {[]byte{2, 2, 0, 0, 0, 2}, []byte{0, 0}, false, api.ErrRange, -1},
		"a code":          {[]byte{2, 2, 0, 0, 0, 0, 0, 2}, []byte{0}, false, api.ErrForm, 0},
		"a second code":   {[]byte{2, 2, 0, 0, 0, 0, 0, 4, 4, 0, 0}, []byte{0}, false, api.ErrForm, 1},
		"where it puts":   {[]byte{2, 2, 0, 0, 0, 0, 0, 2, 4}, []byte{0}, false, api.ErrRange, 0},
		"a number":        {[]byte{2, 2, 0, 0, 0, 0, 0, 2, 2, 0}, nil, false, api.ErrRange, 0},
		"what it asks":    {[]byte{2, 2, 0, 0, 0, 0, 0, 2, 4, 0}, nil, false, api.ErrRange, 0},
		"the second one":  {[]byte{2, 2, 0, 0, 0, 0, 0, 2, 12, 0, 0}, nil, false, api.ErrRange, 0},
		"the third one":   {[]byte{2, 2, 0, 0, 0, 0, 0, 2, 34, 0, 0, 0}, nil, false, api.ErrRange, 0},
		"where none puts": {[]byte{2, 2, 0, 0, 0, 0, 0, 2, 6}, nil, false, api.ErrForm, 0},
	} {
		items := 0
		if c.many {
			items = api.MaxCode
		}
		refused(t, name, all(c.ahead, most, noughts[:items], c.behind), c.err, c.place)
		if c.many {
			items++
		}
		refused(t, name+", one more", all(c.ahead, more, noughts[:items], c.behind), api.ErrForm, -1)
	}
	steps := slices.Repeat([]byte{4, 0, 0}, api.MaxCode+1)
	refused(t, "steps", all([]byte{2, 2, 0, 0, 0, 0, 0}, most, steps[3:]), api.OK, -1)
	refused(t, "steps, one more", all([]byte{2, 2, 0, 0, 0, 0, 0}, more, steps), api.ErrForm, -1)
}

// Promise 12.1: of what is written so, but may not be, Check's errors.
func TestChecked(t *testing.T) {
	half := slices.Concat([]byte{162, 31}, make([]byte, 2001)) // 2001 of them
	for name, c := range map[string]struct {
		s     string
		err   api.Errno
		place int
	}{
		"too many outputs and keeps":    {clp(slices.Concat([]byte{2, 2, 0, 0}, half, half, []byte{0, 0})...), api.ErrLimit, -1},
		"that ahead of first numbers":   {clp(slices.Concat([]byte{2, 0, 0}, half, half, []byte{0, 0})...), api.ErrLimit, -1},
		"a first number too few":        {clp(4, 2, 0, 0, 0, 0, 0, 0), api.ErrForm, -1},
		"a first number too many":       {clp(2, 4, 0, 0, 0, 0, 0, 0, 0), api.ErrForm, -1},
		"an input that is no place":     {clp(2, 2, 0, 2, 2, 0, 0, 0, 0), api.ErrRange, -1},
		"an output that is no place":    {clp(2, 2, 0, 0, 2, 2, 0, 0, 0), api.ErrRange, -1},
		"a keep that is no place":       {clp(2, 2, 0, 0, 0, 2, 2, 0, 0), api.ErrRange, -1},
		"an input twice":                {clp(2, 2, 0, 4, 0, 0, 0, 0, 0, 0), api.ErrTwice, -1},
		"the code 0":                    {clp(2, 2, 0, 0, 0, 0, 0, 2, 0, 0), api.ErrForm, 0},
		"the code Pre":                  {clp(2, 2, 0, 0, 0, 0, 0, 4, 4, 0, 0, 6, 0), api.ErrForm, 1},
		"a code beyond Pick":            {clp(2, 2, 0, 0, 0, 0, 0, 4, 4, 0, 0, 36, 0), api.ErrForm, 1},
		"a code beyond, and one behind": {clp(2, 2, 0, 0, 0, 0, 0, 4, 38, 0, 4, 0, 0), api.ErrForm, 0},
		"it puts where no place is":     {clp(2, 2, 0, 0, 0, 0, 0, 4, 4, 0, 0, 4, 2, 0), api.ErrRange, 1},
		"it asks where no place is":     {clp(2, 2, 0, 0, 0, 0, 0, 4, 4, 0, 0, 4, 0, 2), api.ErrRange, 1},
		"there is no such number":       {clp(2, 2, 0, 0, 0, 0, 2, 0, 2, 2, 0, 2), api.ErrRange, 0},
		"of no places":                  {clp(0, 0, 0, 0, 0, 2, 0, 2, 2, 0, 0), api.ErrRange, 0},
		"a form ahead of a range":       {clp(2, 2, 0, 2, 2, 0, 0, 0, 0, 0), api.ErrForm, -1},
		"a form ahead of a step's":      {clp(2, 2, 0, 0, 0, 0, 0, 4, 6, 0, 4, 0, 1), api.ErrForm, -1},
		"a form ahead of a limit":       {clp(slices.Concat([]byte{2, 2, 0, 0}, half, half, []byte{0, 0, 0})...), api.ErrForm, -1},
	} {
		refused(t, name, c.s, c.err, c.place)
	}
}

// busy is code that has something of all.
func busy() api.Net {
	return api.Net{
		Places: 4, First: []int64{1, -2, math.MaxInt64, 400}, Ins: []int{1}, Outs: []int{0, 2}, Keeps: []int{2, 0}, Nums: []int64{8, math.MinInt64},
		Code: []api.Step{{Code: api.Add, A: 0, B: 1}, {Code: api.Num, Dst: 3, A: 1}, {Code: api.Not, Dst: 1, A: 3}, {Code: api.Pick, Dst: 2, A: 1, B: 2, C: 3}},
	}
}

// Promise 12.1: no piece of what Write tells is code, nor is that with something behind it.
func TestPieces(t *testing.T) {
	s := written(t, busy())
	for i := range s {
		refused(t, "a piece", s[:i], api.ErrForm, -1)
	}
	for c := range 256 {
		refused(t, "more", s+string([]byte{byte(c)}), api.ErrForm, -1)
	}
}

// Promise 12.1: whatever byte is another one, either it is refused, or what is read
// is written just so.
func TestBytes(t *testing.T) {
	s := written(t, busy())
	so := 0
	for i := range s {
		for c := range 256 {
			b := []byte(s)
			b[i] = byte(c)
			n, err := Read(string(b))
			if err != nil {
				if !reflect.DeepEqual(n, api.Net{}) {
					t.Errorf("%q: %v beside an error", b, n)
				}
				continue
			}
			so++
			readBack(t, string(b))
		}
	}
	if so < len(s) {
		t.Errorf("%d were code", so)
	}
}

// Promise 12.1: as much code as there may be.
func TestFull(t *testing.T) {
	n := api.Net{Places: api.MaxCode}
	for i := range api.MaxCode {
		n.First = append(n.First, math.MinInt64+int64(i))
		n.Nums = append(n.Nums, math.MaxInt64-int64(i))
		n.Code = append(n.Code, api.Step{Code: api.Pick, Dst: i, A: api.MaxCode - 1 - i, B: api.MaxCode - 1, C: i})
	}
	for i := range api.MaxCode / 2 {
		n.Ins = append(n.Ins, api.MaxCode-1-i)
		n.Outs = append(n.Outs, i)
	}
	written(t, n)
	for i := range n.Code {
		n.Code[i] = api.Step{Code: api.Num, Dst: i, A: api.MaxCode - 1 - i}
	}
	n.Ins, n.Outs, n.Keeps = nil, nil, make([]int, api.MaxCode)
	written(t, n)
}

// Promise 12.1: Write tells Check's errors, and nothing else with them.
func TestWrong(t *testing.T) {
	of := func(code ...api.Step) api.Net {
		return api.Net{Places: 2, First: []int64{1, 2}, Nums: []int64{7}, Code: code}
	}
	num := api.Step{Code: api.Num}
	many := make([]int64, api.MaxCode+1)
	for _, c := range []struct {
		n     api.Net
		err   api.Errno
		place int
	}{
		{api.Net{Places: -1}, api.ErrLimit, -1},
		{api.Net{Places: math.MinInt}, api.ErrLimit, -1},
		{api.Net{Places: math.MaxInt}, api.ErrLimit, -1},
		{api.Net{Places: api.MaxCode + 1, First: many}, api.ErrLimit, -1},
		{api.Net{Nums: many}, api.ErrLimit, -1},
		{api.Net{Code: make([]api.Step, api.MaxCode+1)}, api.ErrLimit, -1},
		{api.Net{Places: 1, First: []int64{0}, Keeps: make([]int, api.MaxCode), Outs: []int{0}}, api.ErrLimit, -1},
		{api.Net{Places: 1}, api.ErrForm, -1},
		{api.Net{Places: 1, First: []int64{0, 0}}, api.ErrForm, -1},
		{api.Net{Places: 1, First: []int64{0}, Ins: []int{1}}, api.ErrRange, -1},
		{api.Net{Places: 1, First: []int64{0}, Outs: []int{-1}}, api.ErrRange, -1},
		{api.Net{Places: 1, First: []int64{0}, Keeps: []int{1}}, api.ErrRange, -1},
		{api.Net{Places: 1, First: []int64{0}, Ins: []int{0, 0}}, api.ErrTwice, -1},
		{of(api.Step{Code: api.Num, A: 1}), api.ErrRange, 0},
		{of(num, api.Step{Code: api.Pre}), api.ErrForm, 1},
		{of(num, api.Step{}), api.ErrForm, 1},
		{of(num, api.Step{Code: -1}), api.ErrForm, 1},
		{of(num, num, api.Step{Code: api.Neg, A: 2}), api.ErrRange, 2},
		{of(num, api.Step{Code: api.Num, Dst: -1}), api.ErrRange, 1},
		{of(num, api.Step{Code: api.Num, B: 1}), api.ErrArg, 1},
		{of(num, api.Step{Code: api.Add, C: 1}), api.ErrArg, 1},
	} {
		s, err := Write(c.n)
		if e, place := plain.Place(err); e != c.err || place != c.place || s != "" {
			t.Errorf("%.200s: %q, %v at %d; want %v at %d", fmt.Sprint(c.n), s, e, place, c.err, c.place)
		}
	}
}

// room is a list with something behind its length.
func room[T any](l []T, behind T) []T {
	return append(slices.Clone(l), behind)[: len(l) : len(l)+1]
}

// spoil writes into all of a list, and behind it.
func spoil[T any](l []T, with T) {
	for i := range l[:cap(l)] {
		l[:cap(l)][i] = with
	}
}

// spoilAll does so with all that code has.
func spoilAll(n api.Net) {
	spoil(n.First, 77)
	spoil(n.Nums, 77)
	spoil(n.Ins, 77)
	spoil(n.Outs, 77)
	spoil(n.Keeps, 77)
	spoil(n.Code, api.Step{Code: 77, A: 77})
}

// Rule P4: what is handed in is not written into, nor behind it, nor kept; no two
// lists of what comes out share any memory.
func TestFresh(t *testing.T) {
	build := func() api.Net {
		n := busy()
		n.First, n.Nums = room(n.First, 9), room(n.Nums, 9)
		n.Ins, n.Outs, n.Keeps = room(n.Ins, 9), room(n.Outs, 9), room(n.Keeps, 9)
		n.Code = room(n.Code, api.Step{Code: 9})
		return n
	}
	whole := func(n api.Net) string {
		return fmt.Sprint(n.First[:5], n.Ins[:2], n.Outs[:3], n.Keeps[:3], n.Nums[:3], n.Code[:5])
	}
	n := build()
	s := written(t, n)
	want := strings.Clone(s)
	if got := whole(n); got != whole(build()) {
		t.Errorf("written into: %s", got)
	}
	spoilAll(n)
	if s != want {
		t.Errorf("what was handed in is kept: %q; want %q", s, want)
	}
	spoilAll(readBack(t, s))
	if got := readBack(t, s); !alike(got, busy()) || s != want {
		t.Errorf("what came out is kept: %v", got)
	}
	f := readBack(t, s)
	spoil(f.First, 66)
	spoil(f.Ins, 66)
	spoil(f.Keeps, 66)
	if n := busy(); !slices.Equal(f.Outs, n.Outs) || !slices.Equal(f.Nums, n.Nums) {
		t.Errorf("lists are shared: %v", f)
	}
}

// Promise 12.1, and what is to be true of the whole (3): a chart's code, through
// bytes, does the same.
func TestCharts(t *testing.T) {
	for _, text := range []string{
		`chart c { region { initial state s; } }`,
		`chart c { output b; region { initial state s { during b := b + 1; } } }`,
		`chart c { input a; output b := -3; region { initial state s { during b := a * a + a * a; during b := a * a - b / (a * a); } } }`,
		`chart c { input a; output b; region { initial state s { entry b := 1000; go immediate if 1 < a --> t; } state t { during b := b * -1; go if count 2 !(1 < a) --> s; } } }`,
		`chart c { input a; output b; output d; region { initial state s { during b := b + a; go if a == 5 --> t; region { initial state u { go if a --> w; } state w { entry d := d + 7; } } } state t { abort if !a --> s history; } } }`,
	} {
		c, err := parse.Parse(text)
		if err != nil {
			t.Fatalf("%s: %v", text, err)
		}
		n, err := emit.Emit(c)
		for _, layer := range []func(api.Net) (api.Net, error){fold.Fold, share.Share, prune.Prune, pack.Pack} {
			if err != nil {
				t.Fatalf("%s: %v", text, err)
			}
			through(t, n)
			n, err = layer(n)
		}
		through(t, n)
	}
}

// through fails the test unless code that was bytes tells what it told.
func through(t *testing.T, n api.Net) {
	t.Helper()
	one, err := net.New(n)
	two, err2 := net.New(readBack(t, written(t, n)))
	if err != nil || err2 != nil {
		t.Fatal(err, err2)
	}
	for _, told := range [][]int64{{1}, {0}, {5}, nil, {1}, {1}, {0}, {-2}, {4}, {3}} {
		if want, got := one.Tick(told), two.Tick(told); !slices.Equal(got, want) {
			t.Errorf("%v: %v; want %v", told, got, want)
		}
	}
}
