package check

// A slow second reading of promise 4.2: all that is wrong with a chart is
// gathered, each fault with where the document tells it, as a row of numbers;
// the one whose row is least is the answer. It shares nothing with Check but,
// by its words, 4.1.

import (
	"fmt"
	"math"
	"math/rand"
	"slices"
	"strings"
	"testing"

	"clepsydra/api"
	"clepsydra/lex"
	"clepsydra/parse"
)

// fault is one: where it is told, what it is, and of which state or region.
type fault struct {
	row []int
	err api.Errno
	of  []int
}

// second gathers the faults of a chart.
type second struct {
	kinds  map[string]int
	states [][]int // the rows of all states
	faults []fault
}

// row is one, with more behind it.
func row(l []int, more ...int) []int { return slices.Concat(l, more) }

// note adds a fault, if it is so.
func (s *second) note(so bool, err api.Errno, of []int, more ...int) {
	if so {
		s.faults = append(s.faults, fault{row(of, more...), err, of})
	}
}

// answer is what Check is to tell: an error, and its place (-1: none).
func answer(c api.Chart) (api.Errno, int) {
	s := second{kinds: map[string]int{}}
	for i, v := range c.Vars {
		if s.kinds[v.Name] != 0 {
			return api.ErrTwice, i
		}
		s.kinds[v.Name] = v.Kind
	}
	if len(c.Regions) == 0 {
		return api.ErrNone, -1
	}
	s.regions(c.Regions, nil)
	if len(s.faults) == 0 {
		return api.OK, -1
	}
	f := slices.MinFunc(s.faults, func(a, b fault) int { return slices.Compare(a.row, b.row) })
	place := 0
	for _, r := range s.states {
		if slices.Compare(r, f.of) < 0 {
			place++
		}
	}
	return f.err, place
}

// regions gathers from the last one on: nothing may hang on that.
func (s *second) regions(l [][]api.State, at []int) {
	for i, r := range slices.Backward(l) {
		of := row(at, i)
		firsts := 0
		for j := range r {
			if r[j].First {
				firsts++
			}
			s.state(r, j, row(of, j))
		}
		_, ok := byWords(r)
		s.note(firsts == 0, api.ErrNone, of, math.MaxInt, 0)
		s.note(firsts > 1, api.ErrFull, of, math.MaxInt, 1)
		s.note(!ok, api.ErrCycle, of, math.MaxInt, 2)
	}
}

func (s *second) state(region []api.State, i int, of []int) {
	st := region[i]
	s.states = append(s.states, of)
	named := func(name string) func(api.State) bool { return func(o api.State) bool { return o.Name == name } }
	s.regions(st.Regions, row(of, 5))
	for j, w := range st.Ways {
		s.note(!slices.ContainsFunc(region, named(w.To)), api.ErrMissing, of, 4, j, 0)
		s.note(w.Kind == api.Join && len(st.Regions) == 0, api.ErrState, of, 4, j, 1)
		s.note(w.Now && w.Times > 1, api.ErrState, of, 4, j, 1)
		s.note(s.unknown(w.When), api.ErrName, of, 4, j, 2)
		s.sets(w.Sets, of, 4, j, 3)
	}
	s.note(s.unknown(st.Rests), api.ErrName, of, 3)
	s.sets(st.Leave, of, 2, 2)
	s.sets(st.During, of, 2, 1)
	s.sets(st.Enter, of, 2, 0)
	s.note(st.Last && len(st.Ways)+len(st.Regions) > 0, api.ErrState, of, 1)
	s.note(slices.ContainsFunc(region[:i], named(st.Name)), api.ErrTwice, of, 0)
}

func (s *second) sets(l []api.Set, of []int, more ...int) {
	for i, set := range l {
		s.note(s.kinds[set.Name] == 0, api.ErrName, of, row(more, i, 0)...)
		s.note(s.unknown(set.Expr), api.ErrName, of, row(more, i, 0)...)
		s.note(s.kinds[set.Name] == api.In, api.ErrArg, of, row(more, i, 1)...)
	}
}

// unknown tells, by an expression's text, whether a name in it is no variable.
func (s *second) unknown(e *api.Expr) bool {
	tokens, _ := lex.Split(parse.Expr(e))
	return slices.ContainsFunc(tokens, func(k lex.Token) bool {
		return k.Kind == lex.Name && k.Text != "pre" && s.kinds[k.Text] == 0
	})
}

// lot draws the texts of charts: one of rare things is wrong.
type lot struct {
	*rand.Rand
	rare int
}

func (d lot) seldom() bool          { return d.Intn(d.rare) == 0 }
func (d lot) of(l ...string) string { return l[d.Intn(len(l))] }

func (d lot) expr(deep int) string {
	if d.seldom() {
		return d.of("z", "pre(z)", "s0", "c")
	}
	if deep == 0 || d.Intn(3) == 0 {
		return d.of("a", "b", "x", "y", "v", "0", "7", "pre(a)", "pre(v)")
	}
	if d.Intn(3) == 0 {
		return d.of("-", "!", "- -") + "(" + d.expr(deep-1) + ")"
	}
	return d.expr(deep-1) + d.of(" + ", " - ", "*", "/", "%", "==", "!=", "<", "<=", "&&", "||") + d.expr(deep-1)
}

func (d lot) sets() string {
	var l []string
	for range 1 + d.Intn(2) {
		name := d.of("x", "y", "v")
		if d.seldom() {
			name = d.of("a", "b", "z", "s1")
		}
		l = append(l, name+" := "+d.expr(2))
	}
	return strings.Join(l, ", ")
}

// way is one of the i-th of n states.
func (d lot) way(i, n int, inside bool) string {
	word, to, now := d.of("go", "go", "abort"), d.Intn(n), false
	if inside && d.Intn(2) == 0 || d.seldom() {
		word = "join"
	}
	if i+1 < n && d.Intn(3) == 0 {
		to, now = i+1+d.Intn(n-i-1), true
	}
	if now = now || d.seldom(); now {
		word += " immediate"
	}
	if d.Intn(2) == 0 {
		word += " if "
		if !now && d.Intn(2) == 0 || d.seldom() {
			word += d.of("count 1 ", "count 2 ", "count 1000 ")
		}
		word += d.expr(1)
	}
	if d.Intn(3) == 0 {
		word += " do " + d.sets()
	}
	if d.seldom() {
		to += n
	}
	return fmt.Sprintf("%s --> s%d%s; ", word, to, d.of("", " history"))
}

// state is the i-th of n.
func (d lot) state(i, n, deep int) string {
	name, last := i, d.Intn(4) == 0
	if d.seldom() {
		name = d.Intn(n)
	}
	s := fmt.Sprintf("state s%d { ", name)
	var parts []string
	for d.Intn(2) == 0 {
		parts = append(parts, d.of("entry ", "during ", "exit ")+d.sets()+"; ")
	}
	if d.Intn(5) == 0 {
		parts = append(parts, "suspend "+d.expr(1)+"; ")
	}
	if !last || d.seldom() {
		inside := deep > 0 && d.Intn(3) == 0
		for inside && d.Intn(3) < 2 {
			parts = append(parts, d.region(deep-1))
		}
		inside = slices.ContainsFunc(parts, func(p string) bool { return strings.HasPrefix(p, "region") })
		for range d.Intn(3) {
			parts = append(parts, d.way(i, n, inside))
		}
	}
	d.Shuffle(len(parts), func(i, j int) { parts[i], parts[j] = parts[j], parts[i] })
	if last {
		s = "final " + s
	}
	return s + strings.Join(parts, "") + "} "
}

func (d lot) region(deep int) string {
	n := 1 + d.Intn(4)
	if d.seldom() {
		n = 0
	}
	first := d.Intn(n + 1)
	if !d.seldom() {
		first = min(first, n-1)
	}
	s := "region { "
	for i := range n {
		if i == first || d.seldom() {
			s += "initial "
		}
		s += d.state(i, n, deep)
	}
	return s + "} "
}

func (d lot) chart() string {
	parts := []string{"input a; input b; ", "output x; ", "var v; output y; "}
	for !d.seldom() && (len(parts) == 3 || d.Intn(3) == 0) {
		parts = append(parts, d.region(2))
	}
	if d.seldom() && d.seldom() {
		parts = append(parts, d.of("var a; ", "input x; var b; "))
	}
	d.Shuffle(len(parts), func(i, j int) { parts[i], parts[j] = parts[j], parts[i] })
	return "chart c { " + strings.Join(parts, "") + "}"
}

// Promise 4.2: charts drawn by lot, with few faults and with many, against the
// second reading; all errors are among them, and right charts.
func TestAgainstSecondReading(t *testing.T) {
	seen := map[api.Errno]int{}
	r := rand.New(rand.NewSource(4))
	for _, rare := range []int{1000, 200, 80, 30, 10, 4} {
		for range 4000 {
			s := lot{r, rare}.chart()
			c, err := parse.Parse(s)
			if err != nil {
				if api.Tell(err) != api.ErrLimit && api.Tell(err) != api.ErrTwice {
					t.Fatalf("%q draws nothing: %v", s, err)
				}
				continue
			}
			want, place := answer(c)
			seen[want]++
			is(t, s, Check(c), want, place)
			if t.Failed() {
				return
			}
		}
	}
	for _, e := range []api.Errno{api.OK, api.ErrTwice, api.ErrNone, api.ErrState, api.ErrName, api.ErrArg, api.ErrMissing, api.ErrFull, api.ErrCycle} {
		if seen[e] < 50 {
			t.Errorf("error %d was asked for %d times", e, seen[e])
		}
	}
}
