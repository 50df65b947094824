package run

import (
	"fmt"
	"math/rand"
	"slices"
	"testing"

	"clepsydra/api"
	"clepsydra/parse"
	"clepsydra/value"
)

// second is the chapter read a second time, sentence by sentence: what is
// THERE and what WAS by the paths of regions, what was so by the paths of ways,
// what is TAKEN in what is ENTERED.
type second struct {
	chart      api.Chart
	first      bool
	are, were  []int64
	there, was map[string]int
	so         map[string]int
	seen       map[string]int // what was done, for the test alone
}

// read is a chart, ahead of its first tick.
func read(c api.Chart, seen map[string]int) *second {
	d := &second{chart: c, first: true, there: map[string]int{}, was: map[string]int{}, so: map[string]int{}, seen: seen}
	for _, v := range c.Vars {
		d.are = append(d.are, v.First)
	}
	d.were = slices.Clone(d.are)
	return d
}

func (d *second) variable(name string) int {
	return slices.IndexFunc(d.chart.Vars, func(v api.Declared) bool { return v.Name == name })
}

func (d *second) eval(e *api.Expr) int64 {
	return value.Eval(e, value.Env{
		Now: func(name string) int64 { return d.are[d.variable(name)] },
		Was: func(name string) int64 { return d.were[d.variable(name)] },
	})
}

func (d *second) done(sets []api.Set) {
	for _, s := range sets {
		n := d.eval(s.Expr)
		d.are[d.variable(s.Name)] = n
	}
}

func (d *second) tick(ins []int64) []int64 {
	heard := 0
	for i, v := range d.chart.Vars {
		if v.Kind == api.In {
			d.are[i] = 0
			if heard < len(ins) {
				d.are[i] = ins[heard]
			}
			heard++
		}
	}
	for i, region := range d.chart.Regions {
		path := fmt.Sprint(i)
		if d.first {
			d.entered(path, region, firstOf(region), false)
		} else {
			d.goesOn(path, region)
		}
	}
	d.first = false
	d.were = slices.Clone(d.are)
	var out []int64
	for i, v := range d.chart.Vars {
		if v.Kind == api.Out {
			out = append(out, d.are[i])
		}
	}
	return out
}

func firstOf(region []api.State) int {
	return slices.IndexFunc(region, func(s api.State) bool { return s.First })
}

// within is the path of a region in a state.
func within(path string, state, i int) string { return fmt.Sprint(path, ".", state, ".", i) }

// 5.2
func (d *second) entered(path string, region []api.State, i int, back bool) {
	s := region[i]
	d.there[path] = i
	for j := range s.Ways {
		delete(d.so, within(path, i, j))
	}
	d.done(s.Enter)
	for j, w := range s.Ways {
		if w.Now && w.Kind == api.Strong && d.isOpen(path, region, i, j) {
			d.seen["strong at once"]++
			d.taken(path, region, w)
			return
		}
	}
	for j, inner := range s.Regions {
		p := within(path, i, j)
		was, ok := d.was[p]
		switch {
		case back && ok:
			d.seen["back"]++
			if was != firstOf(inner) {
				d.seen["back elsewhere"]++
			}
			d.entered(p, inner, was, true)
		case back:
			d.seen["back to nothing"]++
			d.entered(p, inner, firstOf(inner), false)
		default:
			d.entered(p, inner, firstOf(inner), false)
		}
	}
	for j, w := range s.Ways {
		if w.Now && w.Kind != api.Strong && d.isOpen(path, region, i, j) {
			d.seen[fmt.Sprint("at once, kind ", w.Kind)]++
			d.taken(path, region, w)
			return
		}
	}
}

// 5.3
func (d *second) goesOn(path string, region []api.State) {
	i := d.there[path]
	s := region[i]
	for j, w := range s.Ways {
		if w.Kind == api.Strong && d.isOpen(path, region, i, j) {
			d.seen["strong"]++
			d.taken(path, region, w)
			return
		}
	}
	if s.Rests != nil && d.eval(s.Rests) != 0 {
		d.seen["rests"]++
		return
	}
	d.done(s.During)
	for j, inner := range s.Regions {
		d.goesOn(within(path, i, j), inner)
	}
	for j, w := range s.Ways {
		if w.Kind != api.Strong && d.isOpen(path, region, i, j) {
			d.seen[fmt.Sprint("kind ", w.Kind)]++
			d.taken(path, region, w)
			return
		}
	}
}

// 5.4
func (d *second) isOpen(path string, region []api.State, i, j int) bool {
	s := region[i]
	w := s.Ways[j]
	if w.Kind == api.Join {
		for k, inner := range s.Regions {
			n, ok := d.there[within(path, i, k)]
			if !ok || !inner[n].Last {
				return false
			}
		}
	}
	if w.When != nil && d.eval(w.When) == 0 {
		return false
	}
	if w.Times <= 1 {
		return true
	}
	d.so[within(path, i, j)]++
	if d.so[within(path, i, j)] < w.Times {
		return false
	}
	d.seen["counted"]++
	return true
}

func (d *second) taken(path string, region []api.State, w api.Way) {
	d.left(path, region)
	d.done(w.Sets)
	to := slices.IndexFunc(region, func(s api.State) bool { return s.Name == w.To })
	d.entered(path, region, to, w.Back)
}

func (d *second) left(path string, region []api.State) {
	i, ok := d.there[path]
	if !ok {
		d.seen["left ahead of what is inside"]++
		return
	}
	for j, inner := range region[i].Regions {
		d.left(within(path, i, j), inner)
	}
	d.done(region[i].Leave)
	d.was[path] = i
	delete(d.there, path)
}

func (d *second) names(path string, region []api.State) []string {
	i, ok := d.there[path]
	if !ok {
		return nil
	}
	l := []string{region[i].Name}
	for j, inner := range region[i].Regions {
		l = append(l, d.names(within(path, i, j), inner)...)
	}
	return l
}

func (d *second) allNames() []string {
	var l []string
	for i, region := range d.chart.Regions {
		l = append(l, d.names(fmt.Sprint(i), region)...)
	}
	return l
}

// lot draws charts. Nearly all that is done marks a number of its own in a
// variable, so that what is done twice, not, or in another order, is seen.
type lot struct {
	*rand.Rand
	marks int64
}

func number(n int64) *api.Expr { return &api.Expr{Code: api.Num, Num: n} }

func two(code int, l, r *api.Expr) *api.Expr { return &api.Expr{Code: code, Left: l, Right: r} }

func (d *lot) name() string { return []string{"a", "b", "t", "x", "v"}[d.Intn(5)] }

// expr is seldom of great numbers, so that ways are open now and then.
func (d *lot) expr() *api.Expr {
	a := &api.Expr{Code: api.Var, Name: d.name()}
	b := &api.Expr{Code: api.Pre, Name: d.name()}
	small := two(api.Mod, []*api.Expr{a, b}[d.Intn(2)], number(int64(2+d.Intn(3))))
	switch d.Intn(6) {
	case 0:
		return number(int64(d.Intn(3)))
	case 1:
		return two(api.Eq+d.Intn(4), a, b)
	case 2:
		return &api.Expr{Code: api.Not, Left: small}
	}
	return small
}

func (d *lot) sets() []api.Set {
	var l []api.Set
	for d.Intn(2) == 0 {
		name := []string{"t", "t", "x", "v"}[d.Intn(4)]
		d.marks++
		e := two(api.Add, two(api.Mul, &api.Expr{Code: api.Var, Name: name}, number(31)), number(d.marks))
		if d.Intn(4) == 0 {
			e = d.expr()
		}
		l = append(l, api.Set{Name: name, Expr: e})
	}
	return l
}

// way is one of the i-th of n states.
func (d *lot) way(i, n int, inside bool) api.Way {
	w := api.Way{Kind: d.Intn(2), Times: 1, Back: d.Intn(2) == 0, Sets: d.sets()}
	if inside && d.Intn(2) == 0 {
		w.Kind = api.Join
	}
	to := d.Intn(n)
	if i+1 < n && d.Intn(3) == 0 {
		w.Now, to = true, i+1+d.Intn(n-i-1)
	} else {
		w.Times = d.Intn(4)
	}
	if d.Intn(5) > 0 {
		w.When = d.expr()
	}
	w.To = fmt.Sprint("s", to)
	return w
}

func (d *lot) region(deep int) []api.State {
	n := 1 + d.Intn(4)
	first := d.Intn(n)
	var l []api.State
	for i := range n {
		s := api.State{Name: fmt.Sprint("s", i), First: i == first, Last: d.Intn(4) == 0, Enter: d.sets(), During: d.sets(), Leave: d.sets()}
		if d.Intn(6) == 0 {
			s.Rests = d.expr()
		}
		for !s.Last && deep > 0 && d.Intn(2) == 0 {
			s.Regions = append(s.Regions, d.region(deep-1))
		}
		for !s.Last && d.Intn(3) > 0 {
			s.Ways = append(s.Ways, d.way(i, n, len(s.Regions) > 0))
		}
		l = append(l, s)
	}
	return l
}

func (d *lot) chart() api.Chart {
	c := api.Chart{Name: "c", Vars: []api.Declared{
		{Kind: api.In, Name: "a", First: 1}, {Kind: api.Out, Name: "t"}, {Kind: api.Own, Name: "v", First: -2},
		{Kind: api.In, Name: "b"}, {Kind: api.Out, Name: "x", First: 1},
	}}
	for len(c.Regions) == 0 || d.Intn(3) == 0 {
		c.Regions = append(c.Regions, d.region(3))
	}
	return c
}

// Promises 5.1 to 5.4: charts drawn by lot, against the second reading; all
// that may be done is done in them.
func TestAgainstSecondReading(t *testing.T) {
	seen := map[string]int{}
	d := &lot{Rand: rand.New(rand.NewSource(5))}
	for range 6000 {
		c := d.chart()
		r, err := New(c)
		if err != nil {
			t.Fatalf("%s: %v", parse.Print(c), err)
		}
		if other := read(c, seen); !same(t, d, c, r, other) {
			return
		}
	}
	for _, what := range []string{
		"strong at once", "at once, kind 0", "at once, kind 2", "strong", "kind 0", "kind 2", "rests", "counted",
		"back", "back elsewhere", "back to nothing", "left ahead of what is inside",
	} {
		if seen[what] < 200 {
			t.Errorf("%s: seen %d times", what, seen[what])
		}
	}
}

// same fails the test unless both tell the same in some ticks.
func same(t *testing.T, d *lot, c api.Chart, r *Runner, other *second) bool {
	t.Helper()
	for i := range 25 {
		is(t, "vars", r.Vars(), other.are)
		is(t, "there", r.There(), other.allNames())
		var ins []int64
		for range d.Intn(4) {
			ins = append(ins, int64(d.Intn(4)-1))
		}
		is(t, "tick", r.Tick(ins), other.tick(ins))
		if t.Failed() {
			t.Errorf("tick %d, of\n%s", i, parse.Print(c))
			return false
		}
	}
	return true
}
