package share

import (
	"errors"
	"math"
	"math/rand"
	"reflect"
	"testing"

	"clepsydra/api"
	"clepsydra/net"
	"clepsydra/plain"
)

// lot draws code, and things that it may be told.
type lot struct{ *rand.Rand }

// number is a small one, or one at the bounds.
func (l lot) number() int64 {
	if l.Intn(8) == 0 {
		return []int64{math.MinInt64, math.MaxInt64, math.MinInt64 + 1, 1 << 32}[l.Intn(4)]
	}
	return int64(l.Intn(9) - 4)
}

func (l lot) numbers(many int) []int64 {
	var nums []int64
	for range many {
		nums = append(nums, l.number())
	}
	return nums
}

func (l lot) some(places int) []int {
	var some []int
	for range l.Intn(places + 1) {
		some = append(some, l.Intn(places))
	}
	return some
}

// code is some that may be, of few codes, so that much is made twice, and with
// many copies.
func (l lot) code() api.Net {
	n := api.Net{Places: 1 + l.Intn(8), Nums: l.numbers(1 + l.Intn(3))}
	n.First = l.numbers(n.Places)
	n.Ins = l.Perm(n.Places)[:l.Intn(n.Places+1)]
	n.Outs, n.Keeps = l.some(n.Places), l.some(n.Places)
	codes := []int{api.Var, api.Num}
	for range 1 + l.Intn(3) {
		codes = append(codes, api.Neg+l.Intn(api.Pick-api.Neg+1))
	}
	asked := 1 + l.Intn(n.Places)
	for range l.Intn(24) {
		s := api.Step{Code: codes[l.Intn(len(codes))], Dst: l.Intn(n.Places)}
		if s.Code == api.Num {
			s.A = l.Intn(len(n.Nums))
		}
		for i := range net.Asks(s) {
			*[]*int{&s.A, &s.B, &s.C}[i] = l.Intn(asked)
		}
		n.Code = append(n.Code, s)
	}
	return n
}

// Promise 9.1: code drawn by lot.
func TestByLot(t *testing.T) {
	l := lot{rand.New(rand.NewSource(9))}
	less := 0
	for range 20000 {
		n := l.code()
		f := shared(t, n)
		if i, _ := twice(n); i >= 0 {
			less++
		}
		var ins [][]int64
		for range 6 {
			ins = append(ins, l.numbers(l.Intn(len(n.Ins)+2)))
		}
		same(t, n, f, ins)
		if again := shared(t, n); !reflect.DeepEqual(again, f) {
			t.Fatalf("%v is shared to %v, and to %v", n, f, again)
		}
		if again := shared(t, f); !reflect.DeepEqual(again, f) {
			t.Fatalf("%v is shared to %v, and that to %v", n, f, again)
		}
		if t.Failed() {
			return
		}
	}
	if less < 5000 {
		t.Errorf("something was made twice but %d times", less)
	}
}

// Promise 9.1: of code that may not be Share tells what Check does.
func TestWrongByLot(t *testing.T) {
	l := lot{rand.New(rand.NewSource(91))}
	wrong := 0
	for range 20000 {
		n := l.code()
		if len(n.Code) > 0 {
			s := &n.Code[l.Intn(len(n.Code))]
			*[]*int{&s.Code, &s.Dst, &s.A, &s.B, &s.C}[l.Intn(5)] = l.Intn(30) - 5
		}
		want, place := plain.Place(net.Check(n))
		_, err := Share(n)
		got, at := plain.Place(err)
		if got != want || at != place {
			t.Fatalf("%v: %v at %d; want %v at %d", n, got, at, want, place)
		}
		if want != api.OK {
			wrong++
			var a *api.At
			if errors.As(err, &a) != (place >= 0) {
				t.Fatalf("%v: an At in %v", n, err)
			}
		}
	}
	if wrong < 5000 {
		t.Errorf("something was wrong but %d times", wrong)
	}
}
