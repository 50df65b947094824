package pack

import (
	"errors"
	"math"
	"math/rand"
	"reflect"
	"testing"

	"clepsydra/api"
	"clepsydra/net"
	"clepsydra/plain"
)

// lot draws code, and things that it may be told.
type lot struct{ *rand.Rand }

// number is a small one, or one at the bounds.
func (l lot) number() int64 {
	if l.Intn(8) == 0 {
		return []int64{math.MinInt64, math.MaxInt64, math.MinInt64 + 1, 1 << 32}[l.Intn(4)]
	}
	return int64(l.Intn(9) - 4)
}

func (l lot) numbers(many int) []int64 {
	var nums []int64
	for range many {
		nums = append(nums, l.number())
	}
	return nums
}

func (l lot) some(places, most int) []int {
	var some []int
	for range l.Intn(most + 1) {
		some = append(some, l.Intn(places))
	}
	return some
}

// code is some that may be: few places last, and mostly those are asked at which
// something was put ahead, so that most of the others come and go.
func (l lot) code() api.Net {
	n := api.Net{Places: 1 + l.Intn(12), Nums: l.numbers(1 + l.Intn(4))}
	n.First = l.numbers(n.Places)
	n.Ins = l.Perm(n.Places)[:l.Intn(min(n.Places, 3)+1)]
	n.Outs, n.Keeps = l.some(n.Places, 3), l.some(n.Places, 2)
	was := append([]int{l.Intn(n.Places)}, n.Ins...)
	for range l.Intn(24) {
		s := api.Step{Code: api.Num + l.Intn(api.Pick), Dst: l.Intn(n.Places)}
		if s.Code == api.Pre || l.Intn(3) == 0 {
			s.Code = []int{api.Num, api.Sub}[l.Intn(2)]
		}
		if s.Code == api.Num {
			s.A = l.Intn(len(n.Nums))
		}
		for i := range net.Asks(s) {
			place := was[l.Intn(len(was))]
			if l.Intn(12) == 0 {
				place = l.Intn(n.Places)
			}
			*[]*int{&s.A, &s.B, &s.C}[i] = place
		}
		was = append(was, s.Dst)
		n.Code = append(n.Code, s)
	}
	return n
}

// Promise 11.1: code drawn by lot.
func TestByLot(t *testing.T) {
	l := lot{rand.New(rand.NewSource(11))}
	less, one, numbers := 0, 0, 0
	for range 20000 {
		n := l.code()
		f := packed(t, n)
		if f.Places < n.Places {
			less++
		}
		// Two places became one, beyond those that nobody has.
		if f.Places < touched(n) {
			one++
		}
		if len(f.Nums) > 1 {
			numbers++
		}
		var ins [][]int64
		for range 6 {
			ins = append(ins, l.numbers(l.Intn(len(n.Ins)+2)))
		}
		same(t, n, f, ins)
		if again := packed(t, n); !reflect.DeepEqual(again, f) {
			t.Fatalf("%v is packed to %v, and to %v", n, f, again)
		}
		if again := packed(t, f); !reflect.DeepEqual(again, f) {
			t.Fatalf("%v is packed to %v, and that to %v", n, f, again)
		}
		if t.Failed() {
			return
		}
	}
	if less < 10000 || one < 5000 || numbers < 3000 {
		t.Errorf("%d had fewer places; of %d several became one; %d had several numbers", less, one, numbers)
	}
}

// touched is how many places there are that last, or at which a step puts something.
func touched(n api.Net) int {
	l := lasts(n)
	for _, s := range n.Code {
		l[s.Dst] = true
	}
	return len(l)
}

// Promise 11.1: of code that may not be Pack tells what Check does.
func TestWrongByLot(t *testing.T) {
	l := lot{rand.New(rand.NewSource(111))}
	wrong := 0
	for range 20000 {
		n := l.code()
		if len(n.Code) > 0 {
			s := &n.Code[l.Intn(len(n.Code))]
			*[]*int{&s.Code, &s.Dst, &s.A, &s.B, &s.C}[l.Intn(5)] = l.Intn(30) - 5
		}
		want, place := plain.Place(net.Check(n))
		_, err := Pack(n)
		got, at := plain.Place(err)
		if got != want || at != place {
			t.Fatalf("%v: %v at %d; want %v at %d", n, got, at, want, place)
		}
		if want != api.OK {
			wrong++
			var a *api.At
			if errors.As(err, &a) != (place >= 0) {
				t.Fatalf("%v: an At in %v", n, err)
			}
		}
	}
	if wrong < 5000 {
		t.Errorf("something was wrong but %d times", wrong)
	}
}
