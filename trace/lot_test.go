package trace

import (
	"fmt"
	"math"
	"math/big"
	"math/rand"
	"regexp"
	"strings"
	"testing"

	"clepsydra/api"
	"clepsydra/emit"
	"clepsydra/net"
	"clepsydra/parse"
	"clepsydra/plain"
	"clepsydra/run"
)

// lot draws texts, ticks, code and charts.
type lot struct{ *rand.Rand }

// number is a small one, or one at the bounds.
func (l lot) number() int64 {
	if l.Intn(8) == 0 {
		return []int64{math.MinInt64, math.MaxInt64, math.MinInt64 + 1, 1 << 32}[l.Intn(4)]
	}
	return int64(l.Intn(31) - 15)
}

// ticks are so many at most, of so many numbers at most.
func (l lot) ticks(most, numbers int) [][]int64 {
	var ticks [][]int64
	for range l.Intn(most + 1) {
		var tick []int64
		for range l.Intn(numbers + 1) {
			tick = append(tick, l.number())
		}
		ticks = append(ticks, tick)
	}
	return ticks
}

// The form of a line, told by a pattern; its numbers may be too great yet.
var form = regexp.MustCompile(`^ *((0|-?[1-9][0-9]*)( +(0|-?[1-9][0-9]*))*)? *$`)

// second reads a text by the words of 14.1: another way round than Read does.
func second(s string) ([][]int64, api.Errno, int) {
	if s == "" {
		return nil, api.OK, -1
	}
	var ticks [][]int64
	for i, line := range strings.Split(strings.TrimSuffix(s, "\n"), "\n") {
		var tick []int64
		if !form.MatchString(line) {
			return nil, api.ErrForm, i
		}
		for _, word := range strings.Fields(line) {
			n, ok := new(big.Int).SetString(word, 10)
			if !ok || !n.IsInt64() {
				return nil, api.ErrForm, i
			}
			tick = append(tick, n.Int64())
		}
		if i == api.MaxTicks {
			return nil, api.ErrLimit, -1
		}
		ticks = append(ticks, tick)
	}
	return ticks, api.OK, -1
}

// agrees fails the test unless Read tells what the second reading does, which it answers.
func agrees(t *testing.T, s string) api.Errno {
	t.Helper()
	want, e, place := second(s)
	got, err := Read(s)
	is(t, fmt.Sprintf("%q", s), got, err, e, place)
	if !same(got, want) {
		t.Errorf("%q: %v; want %v", s, got, want)
	}
	if t.Failed() {
		t.FailNow()
	}
	return e
}

// Promise 14.1: all short texts of the bytes that matter.
func TestShortTexts(t *testing.T) {
	const bytes = "01-+ \n\t"
	many := 1
	for length := range 7 {
		for i := range many {
			b := make([]byte, length)
			for k := range b {
				b[k] = bytes[i%len(bytes)]
				i /= len(bytes)
			}
			agrees(t, string(b))
		}
		many *= len(bytes)
	}
}

// Promise 14.1: each byte, alone, in a word, between two, and at the ends.
func TestEachByte(t *testing.T) {
	for i := range 256 {
		b := string([]byte{byte(i)})
		for _, s := range []string{"", "1", " 1", "1 ", "-1", "1\n"} {
			for _, behind := range []string{"", "1", " 1", "1 ", "\n", "\n1"} {
				agrees(t, s+b+behind)
			}
		}
	}
}

// bent is a text of which some bytes are others.
func (l lot) bent(s string) string {
	const letters = "00123456789--   \n\n+a\t\r\x00\xff"
	for range l.Intn(4) {
		i, k := l.Intn(len(s)+1), l.Intn(len(letters))
		switch cut := min(i+l.Intn(2), len(s)); l.Intn(3) {
		case 0:
			s = s[:i] + s[cut:]
		case 1:
			s = s[:i] + letters[k:k+1] + s[i:]
		default:
			s = s[:i] + letters[k:k+1] + s[cut:]
		}
	}
	return s
}

// Promise 14.1: what is printed is read again; texts that are nearly so are told as the
// second reading tells them.
func TestTextsByLot(t *testing.T) {
	l := lot{rand.New(rand.NewSource(14))}
	found := map[api.Errno]int{}
	for i := range 20000 {
		most := 6
		if i%10 == 0 {
			most = api.MaxTicks + 6
		}
		ticks := l.ticks(most, 4)
		s := Print(ticks)
		if got, err := Read(s); len(ticks) <= api.MaxTicks && (err != nil || !same(got, ticks)) {
			t.Fatalf("%v printed %q, and was read %v, %v", ticks, s, got, err)
		}
		found[agrees(t, s)]++
		found[agrees(t, l.bent(s))]++
	}
	if found[api.OK] < 20000 || found[api.ErrForm] < 4000 || found[api.ErrLimit] < 200 {
		t.Errorf("%v", found)
	}
}

// Promise 14.1, and rule P3: the lines about the bound, of which some bytes are others.
func TestLastLinesByLot(t *testing.T) {
	l := lot{rand.New(rand.NewSource(145))}
	found, both := map[api.Errno]int{}, 0
	for range 20000 {
		s := strings.Repeat(l.line(), api.MaxTicks-l.Intn(3)) + l.bent(Print(l.ticks(4, 3)))
		found[agrees(t, s)]++
		_, err := Read(s)
		if _, place := plain.Place(err); place == api.MaxTicks {
			both++
		}
	}
	if found[api.OK] < 3000 || found[api.ErrForm] < 3000 || found[api.ErrLimit] < 3000 || both < 1000 {
		t.Errorf("%v, of which %d are none and one too many", found, both)
	}
}

// line is one that is well.
func (l lot) line() string {
	return []string{"\n", " \n", "8\n", " -1  0\n"}[l.Intn(4)]
}

// Promise 14.1: of a text with more blanks than it needs the same is read.
func TestBlanksByLot(t *testing.T) {
	l := lot{rand.New(rand.NewSource(141))}
	for range 5000 {
		ticks := l.ticks(6, 4)
		s := Print(ticks)
		loose := ""
		for _, line := range strings.SplitAfter(s, "\n") {
			if line != "" {
				between := strings.ReplaceAll(strings.TrimSuffix(line, "\n"), " ", strings.Repeat(" ", 1+l.Intn(3)))
				loose += strings.Repeat(" ", l.Intn(3)) + between + strings.Repeat(" ", l.Intn(3)) + "\n"
			}
		}
		got, err := Read(loose)
		if err != nil || Print(got) != s {
			t.Fatalf("%q: %q, %v; want %q", loose, Print(got), err, s)
		}
	}
}

// Rule P1: whatever bytes there are, Read tells something.
func TestAnyBytes(t *testing.T) {
	l := lot{rand.New(rand.NewSource(142))}
	for range 5000 {
		b := make([]byte, l.Intn(60))
		for i := range b {
			b[i] = byte(l.Intn(256))
		}
		agrees(t, string(b))
	}
}

// code is some that may be, unless it is bent.
func (l lot) code() api.Net {
	n := api.Net{Places: 1 + l.Intn(8), Nums: []int64{l.number(), l.number()}}
	for range n.Places {
		n.First = append(n.First, l.number())
		n.Outs = append(n.Outs, l.Intn(n.Places))
		n.Keeps = append(n.Keeps, l.Intn(n.Places))
	}
	n.Ins = l.Perm(n.Places)[:l.Intn(min(n.Places, 3)+1)]
	for range l.Intn(16) {
		s := api.Step{Code: api.Num + l.Intn(api.Pick), Dst: l.Intn(n.Places)}
		if s.Code == api.Num {
			s.A = l.Intn(len(n.Nums))
		}
		for i := range net.Asks(s) {
			*[]*int{&s.A, &s.B, &s.C}[i] = l.Intn(n.Places)
		}
		if l.Intn(40) == 0 {
			*[]*int{&s.Code, &s.Dst, &s.A, &s.B, &s.C}[l.Intn(5)] = l.Intn(30) - 5
		}
		n.Code = append(n.Code, s)
	}
	return n
}

// ticker is a Runner, or a Machine.
type ticker interface{ Tick(ins []int64) []int64 }

// follows fails the test unless an answer is what a new one tells, or its error.
func follows(t *testing.T, what string, one ticker, wrong error, ins, outs [][]int64, err error) {
	t.Helper()
	e, place := plain.Place(wrong)
	is(t, what, outs, err, e, place)
	var want [][]int64
	if wrong == nil {
		for _, tick := range ins {
			want = append(want, one.Tick(tick))
		}
	}
	if !same(outs, want) {
		t.Errorf("%.900s: of %v: %v; want %v", what, ins, outs, want)
	}
	if t.Failed() {
		t.FailNow()
	}
}

// Promise 14.1: code drawn by lot, held against its Machine.
func TestCodeByLot(t *testing.T) {
	l := lot{rand.New(rand.NewSource(143))}
	fine := 0
	for range 10000 {
		n := l.code()
		ins := l.ticks(6, len(n.Ins)+1)
		outs, err := Code(n, ins)
		m, wrong := net.New(n)
		follows(t, fmt.Sprint(n), m, wrong, ins, outs, err)
		if err == nil {
			fine++
		}
	}
	if fine < 4000 || fine > 9000 {
		t.Errorf("%d may be", fine)
	}
}

// charts are texts; of some of them what they draw may not be.
func charts() []string {
	return []string{
		lamp,
		`chart c { region { initial state s; } }`,
		`chart c { input a; output b := 3; region { initial state s { during b := a * a + a * a; during b := a * a - b / (a * a); } } }`,
		`chart c { input a; output b; var v := 2; region { initial state s { during v := v + a; during b := pre(v); } } }`,
		`chart c { input a; output b; region { initial state s { entry b := 1 + 1; go immediate if 1 < a --> t; } state t { during b := b * -1; go if count 2 !(1 < a) --> s; } } }`,
		`chart c { input a; output b; output d; region { initial state s { during b := b + a; go if a == 5 --> t; region { initial state u { go if a --> w; } state w { entry d := d + 7; } } } state t { abort if !a --> s history; } } }`,
		`chart c { input a; output b; region { initial state s { join do b := b + 1 --> s; region { initial state u { go if a --> w; } final state w; } } } region { initial state z { suspend a == 5; during b := b * 2; } } }`,
		`chart c { input a; region { initial state s { entry a := 1; } } }`,
		`chart c { input a; region { initial state s; } region { initial state t; state u; state t; } }`,
	}
}

// Promise 14.1: charts, held against their Runner, and against the code that does what
// they do.
func TestChartsByLot(t *testing.T) {
	l := lot{rand.New(rand.NewSource(144))}
	for _, text := range charts() {
		c := drawn(t, text)
		n, none := emit.Emit(c)
		for range 300 {
			ins := l.ticks(30, 3)
			outs, err := Chart(c, ins)
			r, wrong := run.New(c)
			follows(t, parse.Print(c), r, wrong, ins, outs, err)
			if none != nil {
				continue
			}
			if code, err := Code(n, ins); err != nil || !same(code, outs) {
				t.Fatalf("%s: of %v its code tells %v, %v; want %v", text, ins, code, err, outs)
			}
		}
	}
}
