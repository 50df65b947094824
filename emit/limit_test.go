package emit

import (
	"errors"
	"fmt"
	"math/rand"
	"reflect"
	"strings"
	"testing"

	"clepsydra/api"
	"clepsydra/net"
	"clepsydra/parse"
)

// isTooMuch tells whether a chart is answered ErrLimit, and fails the test
// unless an At is missing then, and all code.
func isTooMuch(t *testing.T, c api.Chart) bool {
	t.Helper()
	n, err := Emit(c)
	if err == nil {
		if err := net.Check(n); err != nil {
			t.Fatalf("wrong code: %v", err)
		}
		return false
	}
	var at *api.At
	if api.Tell(err) != api.ErrLimit || errors.As(err, &at) || !reflect.DeepEqual(n, api.Net{}) {
		t.Fatalf("%v, %d places, %d steps", err, n.Places, len(n.Code))
	}
	return true
}

// long is a chart of six levels, whose innermost state sets, when it is left,
// a sum of so many.
func long(many int) string {
	s := "exit x := a" + strings.Repeat("+a", many-1) + ";"
	for range api.MaxDepth {
		s = "region { initial state s { go immediate if a --> t; abort if b --> s; " + s + " } state t { go --> s; } }"
	}
	return "chart c { input a; input b; output x; " + s + " }"
}

// Promise 7.1: of what would be too much ErrLimit is told, and of what is less
// code that does what the chart does; and it is not told of what is less than
// what may be.
func TestTooMuch(t *testing.T) {
	d := &lot{Rand: rand.New(rand.NewSource(74))}
	var few, many int
	for i := 1; i <= 190; i++ {
		c := draw(t, long(i))
		if isTooMuch(t, c) {
			many++
			continue
		}
		few++
		if many > 0 {
			t.Errorf("%d are not too much, but fewer are", i)
		}
		if i%20 == 0 {
			same(t, d, c, 40)
		}
	}
	if few < 50 || many < 10 {
		t.Errorf("%d are not too much, %d are", few, many)
	}
}

// Promise 7.1: up to MaxCode steps, and places, nothing is too much: of a sum,
// each step of which needs a place, and of sets, none of which does.
func TestUpToTheBound(t *testing.T) {
	during := func(sets []api.Set) api.Chart {
		return api.Chart{Name: "c", Vars: []api.Declared{{Kind: api.Out, Name: "x", First: 1}}, Regions: [][]api.State{
			{{Name: "s", First: true, During: sets}},
		}}
	}
	sum := func(many int) api.Chart {
		e := named(api.Var, "x")
		for range many {
			e = two(api.Add, e, named(api.Var, "x"))
		}
		return during([]api.Set{{Name: "x", Expr: e}})
	}
	same := func(many int) api.Chart {
		var l []api.Set
		for range many {
			l = append(l, api.Set{Name: "x", Expr: named(api.Var, "x")})
		}
		return during(l)
	}
	for _, drawn := range []func(many int) api.Chart{sum, same} {
		most := 0
		for many := 3900; many <= 4100; many++ {
			n, err := Emit(drawn(many))
			if err == nil {
				most = max(most, len(n.Code), n.Places)
			} else if !isTooMuch(t, drawn(many)) {
				t.Fatalf("%d: %v", many, err)
			}
		}
		if most != api.MaxCode {
			t.Errorf("the greatest that is told has %d", most)
		}
	}
	m := machine(t, sum(3900))
	m.Tick(nil)
	if got := m.Tick(nil); len(got) != 1 || got[0] != 3901 {
		t.Errorf("a sum of 3901 is %v", got)
	}
}

// Promise 7.1: of a chart without regions in states, of six states and six ways,
// of eight sets and forty codes, ErrLimit is never told.
func TestNeverTooMuch(t *testing.T) {
	d := &lot{Rand: rand.New(rand.NewSource(75))}
	for many := 0; many < 3000; {
		c, err := parse.Parse(parse.Print(d.small()))
		if err != nil {
			continue
		}
		many++
		if isTooMuch(t, c) {
			t.Fatalf("%s is too much", parse.Print(c))
		}
		if !same(t, d, c, 12) {
			return
		}
	}
}

// small is a chart that has as much of all as such a one may have, in regions
// side by side: as many variables as there may be, too.
func (d *lot) small() api.Chart {
	const states, ways, sets, codes = 6, 6, 8, 40
	c := api.Chart{Name: "c"}
	for i := range api.MaxVars {
		c.Vars = append(c.Vars, api.Declared{Kind: []int{api.In, api.Out, api.Out, api.Own}[i%4], Name: fmt.Sprint("v", i), First: int64(i - 9)})
	}
	var all []*api.State
	for _, n := range d.split(states, 1+d.Intn(states)) {
		region := make([]api.State, n)
		first := d.Intn(n)
		for i := range region {
			region[i] = api.State{Name: fmt.Sprint("s", i), First: i == first}
			all = append(all, &region[i])
		}
		c.Regions = append(c.Regions, region)
	}
	exprs := d.split(codes, ways+sets+1)
	all[d.Intn(states)].Rests = d.of(exprs[0])
	places := d.wired(c.Regions, all, exprs[1:1+ways])
	for _, n := range exprs[1+ways:] {
		l := places[d.Intn(len(places))]
		*l = append(*l, api.Set{Name: fmt.Sprint("v", 4*d.Intn(5)+1+d.Intn(3)), Expr: d.of(n)})
	}
	return c
}

// wired draws ways, of so many codes, within regions, and tells where something
// may be set in all that there is.
func (d *lot) wired(regions [][]api.State, all []*api.State, exprs []int) []*[]api.Set {
	for _, n := range exprs {
		region := regions[d.Intn(len(regions))]
		from, to := d.Intn(len(region)), d.Intn(len(region))
		w := api.Way{Kind: d.Intn(2), Now: from < to && d.Intn(2) == 0, When: d.of(n), Times: 1, To: fmt.Sprint("s", to), Back: d.Intn(2) == 0}
		if !w.Now {
			w.Times += d.Intn(3)
		}
		region[from].Ways = append(region[from].Ways, w)
	}
	var l []*[]api.Set
	for _, s := range all {
		l = append(l, &s.Enter, &s.During, &s.Leave)
		for i := range s.Ways {
			l = append(l, &s.Ways[i].Sets)
		}
	}
	return l
}

// split are so many numbers, each at least 1, that are the whole together.
func (d *lot) split(whole, many int) []int {
	l := make([]int, many)
	for i := range l {
		l[i] = 1
	}
	for range whole - many {
		l[d.Intn(many)]++
	}
	return l
}

// of is an expression of just so many codes.
func (d *lot) of(codes int) *api.Expr {
	if codes == 1 {
		return []*api.Expr{
			named(api.Var, fmt.Sprint("v", d.Intn(api.MaxVars))),
			named(api.Pre, fmt.Sprint("v", d.Intn(api.MaxVars))),
			number(int64(d.Intn(1000))),
		}[d.Intn(3)]
	}
	if codes == 2 || d.Intn(6) == 0 {
		return &api.Expr{Code: api.Neg + d.Intn(2), Left: d.of(codes - 1)}
	}
	left := 1 + d.Intn(codes-2)
	return two(api.Add+d.Intn(api.Or-api.Add+1), d.of(left), d.of(codes-1-left))
}

// Rule P1: whatever is given, the call ends, and does not panic.
func TestNotOfParse(t *testing.T) {
	d := &lot{Rand: rand.New(rand.NewSource(76))}
	vars := func(kind, many int) []api.Declared {
		var l []api.Declared
		for i := range many {
			l = append(l, api.Declared{Kind: kind, Name: fmt.Sprint("v", i)})
		}
		return l
	}
	state := func(s api.State) [][]api.State {
		s.Name, s.First = "s", true
		return [][]api.State{{s}}
	}
	for kind := range 5 {
		if isTooMuch(t, api.Chart{Vars: vars(kind, 1500), Regions: state(api.State{})}) {
			t.Errorf("1500 variables of kind %d are too much", kind)
		}
		if !isTooMuch(t, api.Chart{Vars: vars(kind, api.MaxCode), Regions: state(api.State{})}) {
			t.Errorf("so many variables of kind %d are not too much", kind)
		}
	}
	// More inputs, outputs and kept places than may be, though places would do.
	if !isTooMuch(t, api.Chart{Vars: vars(api.Out, 2500), Regions: state(api.State{})}) {
		t.Error("2500 outputs are not too much")
	}
	for _, e := range []*api.Expr{
		nil, {}, {Code: -1}, {Code: api.Pick}, {Code: 99, Left: number(1), Right: number(2)},
		{Code: api.Neg}, {Code: api.Add}, {Code: api.Sub, Right: number(3)}, {Code: api.Num, Num: -5},
	} {
		for kind := -1; kind < 5; kind++ {
			w := api.Way{Kind: kind, When: e, Times: kind - 2, To: "s", Sets: []api.Set{{Name: "v1", Expr: e}}}
			c := api.Chart{Vars: vars(api.Out, 2), Regions: state(api.State{During: w.Sets, Rests: e, Ways: []api.Way{w}, Regions: state(api.State{})})}
			same(t, d, c, 5)
			c.Regions[0][0].Ways[0].When, c.Regions[0][0].Ways[0].Times = nil, 3
			same(t, d, c, 9)
		}
	}
	deep := state(api.State{})
	for range 30000 {
		deep = state(api.State{Enter: []api.Set{{Name: "v0"}}, Leave: []api.Set{{Name: "v0"}}, Ways: []api.Way{{To: "s", Back: true}}, Regions: deep})
	}
	if !isTooMuch(t, api.Chart{Vars: vars(api.Own, 1), Regions: deep}) {
		t.Error("30000 levels are not too much")
	}
}

// The charts that are drawn elsewhere are not too much: what they tell is seen.
func TestSeldomTooMuch(t *testing.T) {
	for _, s := range edges() {
		c, err := parse.Parse("chart c { input a; input b; output t; output x; var v; region { " + logged(s) + " } }")
		if err != nil || isTooMuch(t, c) {
			t.Errorf("%s: %v", s, err)
		}
	}
}
