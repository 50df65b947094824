package prune

import (
	"errors"
	"math"
	"math/rand"
	"reflect"
	"testing"

	"clepsydra/api"
	"clepsydra/net"
	"clepsydra/plain"
)

// lot draws code, and things that it may be told.
type lot struct{ *rand.Rand }

// number is a small one, or one at the bounds.
func (l lot) number() int64 {
	if l.Intn(8) == 0 {
		return []int64{math.MinInt64, math.MaxInt64, math.MinInt64 + 1, 1 << 32}[l.Intn(4)]
	}
	return int64(l.Intn(9) - 4)
}

func (l lot) numbers(many int) []int64 {
	var nums []int64
	for range many {
		nums = append(nums, l.number())
	}
	return nums
}

func (l lot) some(places int) []int {
	var some []int
	for range l.Intn(places + 1) {
		some = append(some, l.Intn(places))
	}
	return some
}

// code is some that may be: often with few that are told, and few outputs, so that
// much is for nothing, and much is kept for what is kept.
func (l lot) code() api.Net {
	n := api.Net{Places: 1 + l.Intn(8), Nums: l.numbers(1 + l.Intn(3))}
	n.First = l.numbers(n.Places)
	n.Ins = l.Perm(n.Places)[:l.Intn(1+l.Intn(n.Places+1))]
	n.Outs, n.Keeps = l.some(1+l.Intn(n.Places)), append(l.some(n.Places), l.some(n.Places)...)
	for range l.Intn(20) {
		s := api.Step{Code: api.Num + l.Intn(api.Pick), Dst: l.Intn(n.Places)}
		if s.Code == api.Pre || l.Intn(3) == 0 {
			s.Code = api.Var
		}
		if s.Code == api.Num {
			s.A = l.Intn(len(n.Nums))
		}
		for i := range net.Asks(s) {
			*[]*int{&s.A, &s.B, &s.C}[i] = l.Intn(n.Places)
		}
		n.Code = append(n.Code, s)
	}
	return n
}

// Promise 10.1: code drawn by lot.
func TestByLot(t *testing.T) {
	l := lot{rand.New(rand.NewSource(10))}
	less, fewer, whole := 0, 0, 0
	for range 20000 {
		n := l.code()
		f := pruned(t, n)
		switch {
		case len(f.Code) == len(n.Code):
			whole++
		case idle(n) < 0:
			// What is kept no more takes steps with it.
			fewer++
		default:
			less++
		}
		var ins [][]int64
		for range 6 {
			ins = append(ins, l.numbers(l.Intn(len(n.Ins)+2)))
		}
		same(t, n, f, ins)
		if again := pruned(t, n); !reflect.DeepEqual(again, f) {
			t.Fatalf("%v is pruned to %v, and to %v", n, f, again)
		}
		if again := pruned(t, f); !reflect.DeepEqual(again, f) {
			t.Fatalf("%v is pruned to %v, and that to %v", n, f, again)
		}
		if t.Failed() {
			return
		}
	}
	if less < 5000 || fewer < 500 || whole < 500 {
		t.Errorf("of %d something was for nothing; of %d it was kept for nothing; %d were left whole", less, fewer, whole)
	}
}

// Promise 10.1: of code that may not be Prune tells what Check does.
func TestWrongByLot(t *testing.T) {
	l := lot{rand.New(rand.NewSource(101))}
	wrong := 0
	for range 20000 {
		n := l.code()
		if len(n.Code) > 0 {
			s := &n.Code[l.Intn(len(n.Code))]
			*[]*int{&s.Code, &s.Dst, &s.A, &s.B, &s.C}[l.Intn(5)] = l.Intn(30) - 5
		}
		want, place := plain.Place(net.Check(n))
		_, err := Prune(n)
		got, at := plain.Place(err)
		if got != want || at != place {
			t.Fatalf("%v: %v at %d; want %v at %d", n, got, at, want, place)
		}
		if want != api.OK {
			wrong++
			var a *api.At
			if errors.As(err, &a) != (place >= 0) {
				t.Fatalf("%v: an At in %v", n, err)
			}
		}
	}
	if wrong < 5000 {
		t.Errorf("something was wrong but %d times", wrong)
	}
}
