package image

import (
	"encoding/binary"
	"errors"
	"math"
	"math/rand"
	"testing"

	"clepsydra/api"
	"clepsydra/net"
	"clepsydra/plain"
)

// lot draws code, and bytes that are nearly code.
type lot struct{ *rand.Rand }

// number is one of however many bits.
func (l lot) number() int64 {
	if l.Intn(8) == 0 {
		return []int64{math.MinInt64, math.MaxInt64, math.MinInt64 + 1, 1 << 62, 63, -64}[l.Intn(6)]
	}
	return int64(l.Uint64()) >> l.Intn(64)
}

func (l lot) numbers(many int) []int64 {
	var nums []int64
	for range many {
		nums = append(nums, l.number())
	}
	return nums
}

func (l lot) some(places, most int) []int {
	var some []int
	for range l.Intn(most + 1) {
		some = append(some, l.Intn(places))
	}
	return some
}

// code is some that may be; now and then its places take two bytes.
func (l lot) code() api.Net {
	n := api.Net{Places: 1 + l.Intn([]int{4, 12, 150}[l.Intn(3)]), Nums: l.numbers(1 + l.Intn(4))}
	n.First = l.numbers(n.Places)
	n.Ins = l.Perm(n.Places)[:l.Intn(min(n.Places, 3)+1)]
	n.Outs, n.Keeps = l.some(n.Places, 3), l.some(n.Places, 2)
	for range l.Intn(12) {
		s := api.Step{Code: api.Num + l.Intn(api.Pick), Dst: l.Intn(n.Places)}
		if s.Code == api.Pre || l.Intn(4) == 0 {
			s.Code = api.Num
		}
		if s.Code == api.Num {
			s.A = l.Intn(len(n.Nums))
		}
		for i := range net.Asks(s) {
			*[]*int{&s.A, &s.B, &s.C}[i] = l.Intn(n.Places)
		}
		n.Code = append(n.Code, s)
	}
	return n
}

// plainly writes code by the library's numbers, which are put as 12.1 says.
func plainly(n api.Net) string {
	b := binary.AppendVarint([]byte("CLP1"), int64(n.Places))
	wide := func(l []int) []int64 {
		var w []int64
		for _, place := range l {
			w = append(w, int64(place))
		}
		return w
	}
	for _, l := range [][]int64{n.First, wide(n.Ins), wide(n.Outs), wide(n.Keeps), n.Nums} {
		b = binary.AppendVarint(b, int64(len(l)))
		for _, number := range l {
			b = binary.AppendVarint(b, number)
		}
	}
	b = binary.AppendVarint(b, int64(len(n.Code)))
	for _, s := range n.Code {
		l := append([]int{s.Code, s.Dst}, net.Asks(s)...)
		if s.Code == api.Num {
			l = append(l, s.A)
		}
		for _, number := range l {
			b = binary.AppendVarint(b, int64(number))
		}
	}
	return string(b)
}

// read is what bytes are by the words of 12.1 but for Check's errors, and whether
// they are so written.
func read(s string) (n api.Net, so bool) {
	if len(s) < 4 || s[:4] != "CLP1" {
		return n, false
	}
	rest, ok := []byte(s[4:]), true
	any := func() int64 {
		number, many := binary.Varint(rest)
		if many <= 0 || len(binary.AppendVarint(nil, number)) != many {
			ok, rest = false, nil
			return 0
		}
		rest = rest[many:]
		return number
	}
	small := func() int {
		number := any()
		if number < 0 || number > 4000 {
			ok = false
			return 0
		}
		return int(number)
	}
	n.Places = small()
	for range small() {
		n.First = append(n.First, any())
	}
	for _, l := range []*[]int{&n.Ins, &n.Outs, &n.Keeps} {
		for range small() {
			*l = append(*l, small())
		}
	}
	for range small() {
		n.Nums = append(n.Nums, any())
	}
	for range small() {
		s := api.Step{Code: small(), Dst: small()}
		if s.Code == 1 || s.Code == 2 || s.Code >= 4 && s.Code <= 17 {
			s.A = small()
		}
		if s.Code >= 6 && s.Code <= 17 {
			s.B = small()
		}
		if s.Code == 17 {
			s.C = small()
		}
		n.Code = append(n.Code, s)
	}
	return n, ok && len(rest) == 0
}

// Promise 12.1: code drawn by lot is written as the library writes its numbers, and
// read as what it was.
func TestByLot(t *testing.T) {
	l := lot{rand.New(rand.NewSource(12))}
	for range 5000 {
		n := l.code()
		if got, want := written(t, n), plainly(n); got != want {
			t.Fatalf("%v: %q; want %q", n, got, want)
		}
	}
}

// spoilt are bytes of which some are others, or more, or fewer.
func (l lot) spoilt(s string) string {
	b := []byte(s)
	for range 1 + l.Intn(2) {
		i := l.Intn(len(b))
		switch l.Intn(6) {
		case 0:
			b = append(b[:i:i], b[i+1:]...)
		case 1:
			b = append(b[:i:i], append([]byte{byte(l.Intn(256))}, b[i:]...)...)
		case 2:
			b[i] = byte(l.Intn(256))
		default:
			b[i] = []byte{0, 1, 2, 4, 6, 128, 129, 255, b[i] + 2, b[i] ^ 1, b[i] ^ 128}[l.Intn(11)]
		}
	}
	return string(b)
}

// Promise 12.1: bytes that are nearly code are refused just where they are not so
// written, or where Check refuses what they are.
func TestSpoiltByLot(t *testing.T) {
	l := lot{rand.New(rand.NewSource(121))}
	form, checked, fine := 0, 0, 0
	for range 60000 {
		s := l.spoilt(written(t, l.code()))
		n, so := read(s)
		got, err := Read(s)
		e, place := plain.Place(err)
		var a *api.At
		if errors.As(err, &a) != (place >= 0) {
			t.Fatalf("%q: an At in %v", s, err)
		}
		switch want, at := plain.Place(net.Check(n)); {
		case !so:
			form++
			if e != api.ErrForm || place != -1 {
				t.Fatalf("%q: %v at %d; want %v", s, e, place, api.ErrForm)
			}
		case e != want || place != at:
			t.Fatalf("%q: %v at %d; want %v at %d", s, e, place, want, at)
		case want != api.OK:
			checked++
		default:
			fine++
			if !alike(got, n) {
				t.Fatalf("%q: %v; want %v", s, got, n)
			}
			readBack(t, s)
		}
	}
	if form < 10000 || checked < 2000 || fine < 5000 {
		t.Errorf("%d were of another form, %d were refused by Check, %d were code", form, checked, fine)
	}
}

// Promise 12.1: of code that may not be Write tells what Check does.
func TestWrongByLot(t *testing.T) {
	l := lot{rand.New(rand.NewSource(122))}
	wrong := 0
	for range 20000 {
		n := l.code()
		if len(n.Code) > 0 {
			s := &n.Code[l.Intn(len(n.Code))]
			*[]*int{&s.Code, &s.Dst, &s.A, &s.B, &s.C}[l.Intn(5)] = l.Intn(30) - 5
		}
		want, place := plain.Place(net.Check(n))
		s, err := Write(n)
		if got, at := plain.Place(err); got != want || at != place || (s != "") != (want == api.OK) {
			t.Fatalf("%v: %q, %v at %d; want %v at %d", n, s, got, at, want, place)
		}
		if want != api.OK {
			wrong++
		}
	}
	if wrong < 5000 {
		t.Errorf("something was wrong but %d times", wrong)
	}
}
