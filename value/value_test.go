package value

import (
	"math"
	"math/big"
	"reflect"
	"slices"
	"testing"

	"clepsydra/api"
)

// edges are numbers at which something changes, and some between.
var edges = []int64{
	math.MinInt64, math.MinInt64 + 1, -1 << 32, -1<<31 - 1, -7, -3, -2, -1,
	0, 1, 2, 3, 7, 10, 1 << 31, 1 << 32, 3037000500, math.MaxInt64 - 1, math.MaxInt64,
}

// strange are codes that are none at all.
var strange = []int{math.MinInt, math.MinInt32, -18, -7, -6, -1, 0, api.Pick + 1, api.Pick + 2, 64, 256 + api.Add, math.MaxInt32, math.MaxInt}

// wrap cuts a number to its lowest 64 bits, read as one that may be below 0.
func wrap(n *big.Int) int64 {
	m := new(big.Int).And(n, new(big.Int).SetUint64(math.MaxUint64))
	return int64(m.Uint64())
}

// wide is what promise 1.1 asks of two numbers, worked out without a bound.
func wide(code int, a, b int64) int64 {
	x, y := big.NewInt(a), big.NewInt(b)
	is := func(so bool) int64 {
		if so {
			return 1
		}
		return 0
	}
	switch code {
	case api.Add:
		return wrap(x.Add(x, y))
	case api.Sub:
		return wrap(x.Sub(x, y))
	case api.Mul:
		return wrap(x.Mul(x, y))
	case api.Div, api.Mod:
		if b == 0 {
			return 0
		}
		q := new(big.Int).Quo(x, y)
		if code == api.Div {
			return wrap(q)
		}
		return wrap(x.Sub(x, q.Mul(q, y)))
	case api.Eq:
		return is(x.Cmp(y) == 0)
	case api.Ne:
		return is(x.Cmp(y) != 0)
	case api.Lt:
		return is(x.Cmp(y) < 0)
	case api.Le:
		return is(x.Cmp(y) <= 0)
	case api.And:
		return is(x.Sign() != 0 && y.Sign() != 0)
	case api.Or:
		return is(x.Sign() != 0 || y.Sign() != 0)
	}
	return 0
}

// Promise 1.1: One.
func TestOne(t *testing.T) {
	for _, c := range []struct {
		code    int
		a, want int64
	}{
		{api.Neg, 0, 0},
		{api.Neg, 1, -1},
		{api.Neg, -7, 7},
		{api.Neg, math.MaxInt64, -math.MaxInt64},
		{api.Neg, math.MinInt64, math.MinInt64},
		{api.Not, 0, 1},
		{api.Not, 1, 0},
		{api.Not, 2, 0},
		{api.Not, -1, 0},
		{api.Not, 1 << 32, 0},
		{api.Not, math.MinInt64, 0},
		{api.Not, math.MaxInt64, 0},
	} {
		if got := One(c.code, c.a); got != c.want {
			t.Errorf("One(%d, %d) = %d, want %d", c.code, c.a, got, c.want)
		}
	}
}

// Promise 1.1: One of codes that are not of one number.
func TestOneOfOtherCodes(t *testing.T) {
	codes := slices.Clone(strange)
	for code := api.Num; code <= api.Pick; code++ {
		if code != api.Neg && code != api.Not {
			codes = append(codes, code)
		}
	}
	for _, code := range codes {
		for _, a := range edges {
			if got := One(code, a); got != 0 {
				t.Errorf("One(%d, %d) = %d, want 0", code, a, got)
			}
		}
	}
}

// Promise 1.1: Two, by hand.
func TestTwo(t *testing.T) {
	for _, c := range []struct {
		code       int
		a, b, want int64
	}{
		{api.Add, 2, 3, 5},
		{api.Add, math.MaxInt64, 1, math.MinInt64},
		{api.Add, math.MinInt64, -1, math.MaxInt64},
		{api.Sub, 2, 3, -1},
		{api.Sub, math.MinInt64, 1, math.MaxInt64},
		{api.Sub, 0, math.MinInt64, math.MinInt64},
		{api.Mul, -4, 3, -12},
		{api.Mul, 1 << 32, 1 << 32, 0},
		{api.Mul, math.MinInt64, -1, math.MinInt64},
		{api.Mul, math.MaxInt64, 2, -2},
		{api.Div, 7, 2, 3},
		{api.Div, -7, 2, -3},
		{api.Div, 7, -2, -3},
		{api.Div, -7, -2, 3},
		{api.Div, 1, 2, 0},
		{api.Div, -1, 2, 0},
		{api.Div, 7, 0, 0},
		{api.Div, 0, 0, 0},
		{api.Div, math.MinInt64, 0, 0},
		{api.Div, math.MinInt64, -1, math.MinInt64},
		{api.Mod, 7, 2, 1},
		{api.Mod, -7, 2, -1},
		{api.Mod, 7, -2, 1},
		{api.Mod, -7, -2, -1},
		{api.Mod, 7, 0, 0},
		{api.Mod, -7, 0, 0},
		{api.Mod, 0, 0, 0},
		{api.Mod, math.MinInt64, -1, 0},
		{api.Eq, 3, 3, 1},
		{api.Eq, 3, 4, 0},
		{api.Ne, 3, 3, 0},
		{api.Ne, 3, 4, 1},
		{api.Lt, 3, 4, 1},
		{api.Lt, 3, 3, 0},
		{api.Lt, 4, 3, 0},
		{api.Lt, -1, 0, 1},
		{api.Lt, math.MinInt64, math.MaxInt64, 1},
		{api.Lt, math.MaxInt64, math.MinInt64, 0},
		{api.Le, 3, 4, 1},
		{api.Le, 3, 3, 1},
		{api.Le, 4, 3, 0},
		{api.Le, math.MaxInt64, math.MinInt64, 0},
		{api.And, 2, -1, 1},
		{api.And, 1, 2, 1},
		{api.And, 0, 1, 0},
		{api.And, 1, 0, 0},
		{api.And, 0, 0, 0},
		{api.Or, 0, 0, 0},
		{api.Or, 0, -5, 1},
		{api.Or, 1 << 32, 0, 1},
		{api.Or, 1, -1, 1},
	} {
		if got := Two(c.code, c.a, c.b); got != c.want {
			t.Errorf("Two(%d, %d, %d) = %d, want %d", c.code, c.a, c.b, got, c.want)
		}
	}
}

// Promise 1.1: Two of all codes, and of those that are none, at all edges,
// held against numbers that have no bound.
func TestTwoAtTheEdges(t *testing.T) {
	codes := slices.Clone(strange)
	for code := api.Num; code <= api.Pick; code++ {
		codes = append(codes, code)
	}
	for _, code := range codes {
		for _, a := range edges {
			for _, b := range edges {
				if got, want := Two(code, a, b), wide(code, a, b); got != want {
					t.Errorf("Two(%d, %d, %d) = %d, want %d", code, a, b, got, want)
				}
			}
		}
	}
}

// Promise 1.1: Pick.
func TestPick(t *testing.T) {
	for _, a := range edges {
		want := int64(5)
		if a == 0 {
			want = 6
		}
		if got := Pick(a, 5, 6); got != want {
			t.Errorf("Pick(%d, 5, 6) = %d, want %d", a, got, want)
		}
	}
	if got := Pick(1, 0, 6); got != 0 {
		t.Errorf("Pick(1, 0, 6) = %d, want 0", got)
	}
	if got := Pick(0, 5, math.MinInt64); got != math.MinInt64 {
		t.Errorf("Pick(0, 5, least) = %d, want the least", got)
	}
}

func num(n int64) *api.Expr     { return &api.Expr{Code: api.Num, Num: n} }
func now(name string) *api.Expr { return &api.Expr{Code: api.Var, Name: name} }
func was(name string) *api.Expr { return &api.Expr{Code: api.Pre, Name: name} }

func of(code int, sides ...*api.Expr) *api.Expr {
	e := &api.Expr{Code: code}
	if len(sides) > 0 {
		e.Left = sides[0]
	}
	if len(sides) > 1 {
		e.Right = sides[1]
	}
	return e
}

// listener tells variables, and writes down who was asked.
type listener struct {
	nows, wases map[string]int64
	asked       []string
}

func (l *listener) env() Env {
	return Env{
		Now: func(name string) int64 {
			l.asked = append(l.asked, "now "+name)
			return l.nows[name]
		},
		Was: func(name string) int64 {
			l.asked = append(l.asked, "was "+name)
			return l.wases[name]
		},
	}
}

func newListener() *listener {
	return &listener{
		nows:  map[string]int64{"a": 20, "b": -3, "z": 0, "": 9},
		wases: map[string]int64{"a": 5, "b": 100, "z": 0, "": 8},
	}
}

// Promise 1.2: what each code comes to, and who is asked, in which order.
func TestEval(t *testing.T) {
	for _, c := range []struct {
		what  string
		e     *api.Expr
		want  int64
		asked []string
	}{
		{"nil", nil, 0, nil},
		{"num", num(-12), -12, nil},
		{"greatest num", num(math.MaxInt64), math.MaxInt64, nil},
		{"num beside others", &api.Expr{Code: api.Num, Num: 4, Name: "a", Left: now("a"), Right: now("b")}, 4, nil},
		{"var", now("a"), 20, []string{"now a"}},
		{"var beside others", &api.Expr{Code: api.Var, Num: 4, Name: "b", Left: now("a"), Right: now("a")}, -3, []string{"now b"}},
		{"var without a name", now(""), 9, []string{"now "}},
		{"pre", was("a"), 5, []string{"was a"}},
		{"pre beside others", &api.Expr{Code: api.Pre, Num: 4, Name: "b", Left: now("a"), Right: now("a")}, 100, []string{"was b"}},
		{"neg", of(api.Neg, now("a")), -20, []string{"now a"}},
		{"neg asks no right", of(api.Neg, now("a"), now("b")), -20, []string{"now a"}},
		{"not", of(api.Not, was("a")), 0, []string{"was a"}},
		{"not asks no right", of(api.Not, now("z"), now("b")), 1, []string{"now z"}},
		{"neg of nil", of(api.Neg), 0, nil},
		{"not of nil", of(api.Not), 1, nil},
		{"not of right alone", of(api.Not, nil, now("a")), 1, nil},
		{"sub", of(api.Sub, now("a"), was("a")), 15, []string{"now a", "was a"}},
		{"div", of(api.Div, now("a"), now("b")), -6, []string{"now a", "now b"}},
		{"mod", of(api.Mod, now("a"), now("b")), 2, []string{"now a", "now b"}},
		{"div by 0", of(api.Div, now("a"), now("z")), 0, []string{"now a", "now z"}},
		{"div of 0", of(api.Div, now("z"), now("a")), 0, []string{"now z", "now a"}},
		{"mul of 0", of(api.Mul, now("z"), now("a")), 0, []string{"now z", "now a"}},
		{"and, left 0", of(api.And, now("z"), now("a")), 0, []string{"now z", "now a"}},
		{"or, left not 0", of(api.Or, now("a"), now("z")), 1, []string{"now a", "now z"}},
		{"and, right nil", of(api.And, now("a")), 0, []string{"now a"}},
		{"sub, left nil", of(api.Sub, nil, now("a")), -20, []string{"now a"}},
		{"nested", of(api.Add, of(api.Mul, now("a"), of(api.Neg, was("b"))), of(api.Lt, now("b"), num(0))), -1999, []string{"now a", "was b", "now b"}},
	} {
		l := newListener()
		if got := Eval(c.e, l.env()); got != c.want {
			t.Errorf("%s: %d, want %d", c.what, got, c.want)
		}
		if !slices.Equal(l.asked, c.asked) {
			t.Errorf("%s: asked %q, want %q", c.what, l.asked, c.asked)
		}
	}
}

// Promise 1.2: every code of two numbers is Two's, the left one first.
func TestEvalOfTwo(t *testing.T) {
	for code := api.Add; code <= api.Or; code++ {
		for _, a := range edges {
			for _, b := range edges {
				e := of(code, now("a"), was("b"))
				env := Env{Now: func(string) int64 { return a }, Was: func(string) int64 { return b }}
				if got, want := Eval(e, env), wide(code, a, b); got != want {
					t.Errorf("code %d of %d, %d: %d, want %d", code, a, b, got, want)
				}
			}
		}
	}
}

// Promise 1.2: codes that are none are Two's too: both sides are asked, and it is 0.
func TestEvalOfOtherCodes(t *testing.T) {
	for _, code := range append([]int{api.Pick}, strange...) {
		l := newListener()
		e := &api.Expr{Code: code, Num: 7, Name: "b", Left: now("a"), Right: was("b")}
		if got := Eval(e, l.env()); got != 0 {
			t.Errorf("code %d: %d, want 0", code, got)
		}
		if want := []string{"now a", "was b"}; !slices.Equal(l.asked, want) {
			t.Errorf("code %d: asked %q, want %q", code, l.asked, want)
		}
		if got := Eval(of(code), l.env()); got != 0 {
			t.Errorf("code %d without sides: %d, want 0", code, got)
		}
	}
}

// Rule P1: no call panics, whoever tells the variables.
func TestEvalWithoutTellers(t *testing.T) {
	fails := func(string) int64 { panic("no such name") }
	for what, env := range map[string]Env{"none": {}, "failing": {Now: fails, Was: fails}} {
		for _, e := range []*api.Expr{now("a"), was("a"), of(api.Add, now("a"), was("b"))} {
			if got := Eval(e, env); got != 0 {
				t.Errorf("%s: code %d: %d, want 0", what, e.Code, got)
			}
		}
		if got := Eval(of(api.Not, now("a")), env); got != 1 {
			t.Errorf("%s: not: %d, want 1", what, got)
		}
	}
	half := Env{Now: fails, Was: func(string) int64 { return 6 }}
	if got := Eval(of(api.Sub, now("a"), was("a")), half); got != -6 {
		t.Errorf("half: %d, want -6", got)
	}
}

// Rule P1, within the document's limits: many parts nested in one another.
func TestEvalDeep(t *testing.T) {
	left, right := num(1), num(1)
	for range 1<<16 - 1 {
		left = of(api.Add, left, num(2))
		right = of(api.Sub, num(2), right)
	}
	if got := Eval(left, Env{}); got != 1<<17-1 {
		t.Errorf("to the left: %d, want %d", got, 1<<17-1)
	}
	if got := Eval(right, Env{}); got != 1 {
		t.Errorf("to the right: %d, want 1", got)
	}
}

// Rule P4: an expression is not written into, and asked again it comes to the same.
func TestEvalLeavesTheExpression(t *testing.T) {
	build := func() *api.Expr {
		return of(api.Or, of(api.Not, now("z")), of(api.Div, was("b"), of(api.Neg, num(3))))
	}
	e := build()
	first := Eval(e, newListener().env())
	second := Eval(e, newListener().env())
	if first != 1 || second != 1 {
		t.Errorf("%d, then %d, want 1 both times", first, second)
	}
	if !reflect.DeepEqual(e, build()) {
		t.Error("the expression was written into")
	}
}
