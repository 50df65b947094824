package net

import (
	"fmt"
	"math"
	"math/rand"
	"slices"
	"testing"

	"clepsydra/api"
)

// The chapter read a second time, sentence by sentence.

// check2 is 6.1.
func check2(n api.Net) (api.Errno, int) {
	together := slices.Concat(n.Ins, n.Outs, n.Keeps)
	if !(n.Places >= 0 && n.Places <= 4000) || len(n.Code) > 4000 || len(n.Nums) > 4000 || len(together) > 4000 {
		return api.ErrLimit, -1
	}
	if n.Places != len(n.First) {
		return api.ErrForm, -1
	}
	for _, p := range together {
		if p < 0 || p >= n.Places {
			return api.ErrRange, -1
		}
	}
	for i, p := range n.Ins {
		for _, q := range n.Ins[:i] {
			if p == q {
				return api.ErrTwice, -1
			}
		}
	}
	for i, s := range n.Code {
		if e := step2(n, s); e != api.OK {
			return e, i
		}
	}
	return api.OK, -1
}

// step2 is 6.1 of a step: which of its fields are places, which is a number's,
// and which are nothing.
func step2(n api.Net, s api.Step) api.Errno {
	var kinds string
	switch s.Code {
	case api.Num:
		kinds = "n00"
	case api.Var, api.Neg, api.Not:
		kinds = "p00"
	case api.Add, api.Sub, api.Mul, api.Div, api.Mod, api.Eq, api.Ne, api.Lt, api.Le, api.And, api.Or:
		kinds = "pp0"
	case api.Pick:
		kinds = "ppp"
	default:
		return api.ErrForm
	}
	for i, x := range []int{s.Dst, s.A, s.B, s.C} {
		switch ("p" + kinds)[i] {
		case 'p':
			if x < 0 || x >= n.Places {
				return api.ErrRange
			}
		case 'n':
			if x < 0 || x >= len(n.Nums) {
				return api.ErrRange
			}
		}
	}
	for i, x := range []int{s.A, s.B, s.C} {
		if kinds[i] == '0' && x != 0 {
			return api.ErrArg
		}
	}
	return api.OK
}

// tick2 is 6.2: what is told, of what places are, which it changes.
func tick2(n api.Net, are map[int]int64, ins []int64) []int64 {
	for i, p := range n.Ins {
		are[p] = 0
		if i < len(ins) {
			are[p] = ins[i]
		}
	}
	for _, s := range n.Code {
		are[s.Dst] = made2(n, are, s)
	}
	var told []int64
	for _, p := range n.Outs {
		told = append(told, are[p])
	}
	for p := range n.Places {
		if !slices.Contains(n.Keeps, p) {
			are[p] = 0
		}
	}
	return told
}

// made2 is what a step makes.
func made2(n api.Net, are map[int]int64, s api.Step) int64 {
	a, b := are[s.A], are[s.B]
	so := map[bool]int64{true: 1}
	switch s.Code {
	case api.Num:
		return n.Nums[s.A]
	case api.Var:
		return a
	case api.Neg:
		return 0 - a
	case api.Not:
		return so[a == 0]
	case api.Add:
		return a + b
	case api.Sub:
		return a - b
	case api.Mul:
		return a * b
	case api.Div, api.Mod:
		if b == 0 {
			return 0
		}
		if s.Code == api.Div {
			return a / b
		}
		return a - b*(a/b)
	case api.Eq:
		return so[a == b]
	case api.Ne:
		return so[a != b]
	case api.Lt:
		return so[a < b]
	case api.Le:
		return so[a <= b]
	case api.And:
		return so[a != 0 && b != 0]
	case api.Or:
		return so[a != 0 || b != 0]
	}
	if a != 0 {
		return b
	}
	return are[s.C]
}

// lot draws code that may be, and things that it may be told.
type lot struct{ *rand.Rand }

// number is a small one, or one at the bounds.
func (l lot) number() int64 {
	if l.Intn(8) == 0 {
		return []int64{math.MinInt64, math.MaxInt64, math.MinInt64 + 1, 1 << 32}[l.Intn(4)]
	}
	return int64(l.Intn(9) - 4)
}

func (l lot) numbers(many int) []int64 {
	var nums []int64
	for range many {
		nums = append(nums, l.number())
	}
	return nums
}

func (l lot) some(places int) []int {
	var some []int
	for range l.Intn(places + 1) {
		some = append(some, l.Intn(places))
	}
	return some
}

func (l lot) code() api.Net {
	n := api.Net{Places: 1 + l.Intn(7), Nums: l.numbers(1 + l.Intn(4))}
	n.First = l.numbers(n.Places)
	n.Ins = l.Perm(n.Places)[:l.Intn(n.Places+1)]
	n.Outs, n.Keeps = l.some(n.Places), l.some(n.Places)
	for range l.Intn(20) {
		s := api.Step{Code: api.Num + l.Intn(api.Pick), Dst: l.Intn(n.Places)}
		if s.Code == api.Num || s.Code == api.Pre {
			s.Code, s.A = api.Num, l.Intn(len(n.Nums))
		}
		for _, field := range []*int{&s.A, &s.B, &s.C}[:codes()[s.Code]] {
			*field = l.Intn(n.Places)
		}
		n.Code = append(n.Code, s)
	}
	return n
}

// spoil makes something of it otherwise, which may be wrong then.
func (l lot) spoil(n *api.Net) {
	odd := l.Intn(12) - 3
	switch l.Intn(8) {
	case 0:
		n.Places = odd
	case 1:
		n.First = n.First[:l.Intn(len(n.First)+1)]
	case 2:
		n.Ins = append(n.Ins, odd)
	case 3:
		n.Outs = append(n.Outs, odd)
	case 4:
		n.Keeps = append(n.Keeps, odd)
	case 5:
		n.Nums = n.Nums[:l.Intn(len(n.Nums)+1)]
	default:
		if len(n.Code) > 0 {
			s := &n.Code[l.Intn(len(n.Code))]
			*[]*int{&s.Code, &s.Dst, &s.A, &s.B, &s.C}[l.Intn(5)] = odd
		}
	}
}

// Promise 6.1: code drawn by lot, with faults or without, against the second
// reading.
func TestCheckByLot(t *testing.T) {
	l := lot{rand.New(rand.NewSource(6))}
	seen := map[api.Errno]int{}
	for range 40000 {
		n := l.code()
		for range l.Intn(4) {
			l.spoil(&n)
		}
		want, place := check2(n)
		is(t, n, Check(n), want, place)
		seen[want]++
	}
	for _, e := range []api.Errno{api.OK, api.ErrLimit, api.ErrForm, api.ErrRange, api.ErrTwice, api.ErrArg} {
		if seen[e] < 400 {
			t.Errorf("%v was drawn but %d times", e, seen[e])
		}
	}
}

// Promise 6.2: code drawn by lot, and told things, against the second reading.
func TestTickByLot(t *testing.T) {
	l := lot{rand.New(rand.NewSource(62))}
	for range 10000 {
		n := l.code()
		m := start(t, n)
		are := map[int]int64{}
		for p, first := range n.First {
			are[p] = first
		}
		var log string
		for range 6 {
			ins := l.numbers(l.Intn(len(n.Ins) + 2))
			want := tick2(n, are, ins)
			got := m.Tick(ins)
			log += fmt.Sprint(ins, got)
			if !slices.Equal(got, want) {
				t.Fatalf("%v: %s; want %v", n, log, want)
			}
		}
	}
}
