package craft

import (
	"errors"
	"fmt"
	"math"
	"math/rand"
	"reflect"
	"strings"
	"testing"

	"clepsydra/api"
	"clepsydra/emit"
	"clepsydra/net"
	"clepsydra/parse"
	"clepsydra/plain"
)

// lot draws code and charts, and things that they may be told.
type lot struct{ *rand.Rand }

// number is a small one, or one at the bounds.
func (l lot) number() int64 {
	if l.Intn(8) == 0 {
		return []int64{math.MinInt64, math.MaxInt64, math.MinInt64 + 1, 1 << 32}[l.Intn(4)]
	}
	return int64(l.Intn(9) - 4)
}

func (l lot) numbers(many int) []int64 {
	var nums []int64
	for range many {
		nums = append(nums, l.number())
	}
	return nums
}

// told is what may be told in so many ticks; now and then too little, or too much.
func (l lot) told(ticks, ins int) [][]int64 {
	var told [][]int64
	for range ticks {
		told = append(told, l.numbers(l.Intn(ins+2)))
	}
	return told
}

func (l lot) some(places, most int) []int {
	var some []int
	for range l.Intn(most + 1) {
		some = append(some, l.Intn(places))
	}
	return some
}

// code is some that may be: much of it is made of numbers, twice, or for nothing.
func (l lot) code() api.Net {
	n := api.Net{Places: 1 + l.Intn(10), Nums: l.numbers(1 + l.Intn(4))}
	n.First = l.numbers(n.Places)
	n.Ins = l.Perm(n.Places)[:l.Intn(min(n.Places, 3)+1)]
	n.Outs, n.Keeps = l.some(n.Places, 3), l.some(n.Places, 3)
	for range l.Intn(24) {
		s := api.Step{Code: api.Num + l.Intn(api.Pick), Dst: l.Intn(n.Places)}
		if s.Code == api.Pre || l.Intn(3) == 0 {
			s.Code = []int{api.Num, api.Sub, api.Var}[l.Intn(3)]
		}
		if s.Code == api.Num {
			s.A = l.Intn(len(n.Nums))
		}
		for i := range net.Asks(s) {
			*[]*int{&s.A, &s.B, &s.C}[i] = l.Intn(n.Places)
		}
		n.Code = append(n.Code, s)
	}
	return n
}

// Promise 13.1: code drawn by lot is made better, and does the same.
func TestCodeByLot(t *testing.T) {
	l := lot{rand.New(rand.NewSource(13))}
	steps, places, keeps := 0, 0, 0
	for range 15000 {
		n := l.code()
		f := bettered(t, n)
		if len(f.Code) < len(n.Code) {
			steps++
		}
		if f.Places < n.Places {
			places++
		}
		if len(f.Keeps) < len(n.Keeps) {
			keeps++
		}
		agree(t, fmt.Sprint(n), machine(t, n), machine(t, f), l.told(6, len(n.Ins)))
		if t.Failed() {
			return
		}
	}
	if steps < 5000 || places < 5000 || keeps < 3000 {
		t.Errorf("%d had fewer steps, %d fewer places, %d kept less", steps, places, keeps)
	}
}

// tells fails the test unless an error is that one, with its place, if it has one.
func tells(t *testing.T, what string, err, want error) {
	t.Helper()
	e, place := plain.Place(err)
	if was, at := plain.Place(want); e != was || place != at {
		t.Fatalf("%.300s: %v at %d; want %v at %d", what, e, place, was, at)
	}
	var a *api.At
	if errors.As(err, &a) != (place >= 0) {
		t.Fatalf("%.300s: an At in %v", what, err)
	}
}

// Promise 13.1: of code that may not be Better tells what Check does.
func TestWrongCodeByLot(t *testing.T) {
	l := lot{rand.New(rand.NewSource(131))}
	wrong := 0
	for range 15000 {
		n := l.code()
		if len(n.Code) > 0 {
			s := &n.Code[l.Intn(len(n.Code))]
			*[]*int{&s.Code, &s.Dst, &s.A, &s.B, &s.C}[l.Intn(5)] = l.Intn(30) - 5
		}
		want := net.Check(n)
		f, err := Better(n)
		tells(t, fmt.Sprint(n), err, want)
		if want != nil {
			wrong++
			if !reflect.DeepEqual(f, api.Net{}) {
				t.Fatalf("%v: %v beside an error", n, f)
			}
		}
	}
	if wrong < 4000 {
		t.Errorf("something was wrong but %d times", wrong)
	}
}

// expr is an expression, of numbers alone now and then.
func (l lot) expr(deep int) string {
	if deep == 0 {
		return []string{"a", "b", "x", "v", "pre(x)", "pre(a)", "0", "1", "2", "7"}[l.Intn(10)]
	}
	signs := []string{"+", "-", "*", "/", "%", "==", "!=", "<", "<=", "&&", "||"}
	return []string{"", "-", "!"}[l.Intn(3)] + "(" + l.expr(l.Intn(deep)) + " " + signs[l.Intn(len(signs))] + " " + l.expr(l.Intn(deep)) + ")"
}

func (l lot) sets() string {
	name := []string{"x", "y", "v"}[l.Intn(3)]
	s := name + " := " + name + " * 3 + " + l.expr(2)
	if l.Intn(4) == 0 {
		s += ", v := " + l.expr(1)
	}
	return s
}

// way is one of the i-th of n states; those at once lead forth.
func (l lot) way(i, n int, inside bool) string {
	s := []string{"go", "abort"}[l.Intn(2)]
	if inside && l.Intn(2) == 0 {
		s = "join"
	}
	to := l.Intn(n)
	now := i+1 < n && l.Intn(3) == 0
	if now {
		s, to = s+" immediate", i+1+l.Intn(n-i-1)
	}
	if l.Intn(5) > 0 {
		s += " if "
		if !now && l.Intn(3) == 0 {
			s += fmt.Sprint("count ", 1+l.Intn(3), " ")
		}
		s += l.expr(l.Intn(3))
	}
	if l.Intn(3) == 0 {
		s += " do " + l.sets()
	}
	return s + fmt.Sprint(" --> s", to) + []string{"", " history"}[l.Intn(2)] + "; "
}

// region may hold others in its states, of so many levels.
func (l lot) region(deep int) string {
	s := "region { "
	n := 1 + l.Intn(3)
	first := l.Intn(n)
	for i := range n {
		if i == first {
			s += "initial "
		}
		if l.Intn(5) == 0 {
			s += fmt.Sprintf("final state s%d { exit %s; } ", i, l.sets())
			continue
		}
		s += fmt.Sprintf("state s%d { ", i)
		for l.Intn(2) == 0 {
			s += []string{"entry ", "during ", "exit "}[l.Intn(3)] + l.sets() + "; "
		}
		if l.Intn(6) == 0 {
			s += "suspend " + l.expr(1) + "; "
		}
		inside := deep > 0 && l.Intn(2) == 0
		for range l.Intn(3) {
			s += l.way(i, n, inside)
		}
		if inside {
			s += l.region(deep - 1)
		}
		s += "} "
	}
	return s + "} "
}

func (l lot) chart() string {
	s := "chart c { input a; output x; var v := -2; input b; output y := 1; " + l.region(l.Intn(4))
	if l.Intn(3) == 0 {
		s += l.region(1)
	}
	return s + "}"
}

// Promise 13.1: of charts drawn by lot the code does what they do.
func TestChartsByLot(t *testing.T) {
	l := lot{rand.New(rand.NewSource(132))}
	for many := 0; many < 1500; {
		text := l.chart()
		if _, err := parse.Parse(text); err != nil {
			continue // It has too many words.
		}
		many++
		c, n := made(t, text)
		agree(t, text, runner(t, c), machine(t, n), l.told(25, len(n.Ins)))
	}
}

// bent is a text of which some bytes, or words, are others.
func (l lot) bent(s string) string {
	for range l.Intn(3) {
		i := l.Intn(len(s))
		switch l.Intn(6) {
		case 0:
			s = s[:i] + s[i+1:]
		case 1:
			const letters = "{}();:=-->!&|a0 #\n_\xff"
			k := l.Intn(len(letters))
			s = s[:i] + letters[k:k+1] + s[i+1:]
		default:
			// The first one behind i, so that it is not always the same one.
			words := [][2]string{
				{" x :=", " a :="}, {" x :=", " z :="}, {"--> s", "--> t"}, {" initial", " "}, {" state", " initial state"}, {" state", " final state"},
				{" state s1", " state s0"}, {"go ", "join "}, {"--> s2", "--> s0"}, {"go ", "go immediate "}, {"output y", "output x"}, {"count ", "count 0"}, {"(", "((((((("},
			}
			w := words[l.Intn(len(words))]
			s = s[:i] + strings.Replace(s[i:], w[0], w[1], 1)
		}
	}
	return s
}

// Promise 13.1: of texts that are nearly charts Make tells Parse's errors, then Emit's.
func TestWrongTextByLot(t *testing.T) {
	l := lot{rand.New(rand.NewSource(133))}
	parsed, emitted, fine := 0, 0, 0
	for range 8000 {
		text := l.bent(l.chart())
		drawn, want := parse.Parse(text)
		if want != nil {
			parsed++
		} else if _, want = emit.Emit(drawn); want != nil {
			emitted++
		} else {
			fine++
		}
		c, n, err := Make(text)
		tells(t, text, err, want)
		if want != nil && (!reflect.DeepEqual(c, api.Chart{}) || !reflect.DeepEqual(n, api.Net{})) {
			t.Fatalf("%s: %v, %v beside an error", text, c, n)
		}
		if want == nil && !reflect.DeepEqual(c, drawn) {
			t.Fatalf("%s: %v; want %v", text, c, drawn)
		}
	}
	if parsed < 1000 || emitted < 400 || fine < 1000 {
		t.Errorf("%d draw nothing, %d draw what may not be, %d are made", parsed, emitted, fine)
	}
}

// Rule P1: whatever bytes there are, Make tells something.
func TestAnyBytes(t *testing.T) {
	l := lot{rand.New(rand.NewSource(134))}
	for range 3000 {
		b := make([]byte, l.Intn(60))
		for i := range b {
			b[i] = byte(l.Intn(256))
		}
		if _, _, err := Make(string(b)); api.Tell(err) <= api.OK {
			t.Fatalf("%q: %v", b, err)
		}
	}
}
