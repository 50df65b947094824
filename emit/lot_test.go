package emit

import (
	"fmt"
	"math"
	"math/rand"
	"testing"

	"clepsydra/api"
	"clepsydra/parse"
)

// lot draws charts. Nearly all that is done marks a number of its own in a
// variable, so that what is done twice, not, or in another order, is seen.
type lot struct {
	*rand.Rand
	marks  int64
	states int // how many more there may be
}

func number(n int64) *api.Expr { return &api.Expr{Code: api.Num, Num: n} }

func named(code int, name string) *api.Expr { return &api.Expr{Code: code, Name: name} }

func two(code int, l, r *api.Expr) *api.Expr { return &api.Expr{Code: code, Left: l, Right: r} }

// expr is seldom of great numbers, so that ways are open now and then.
func (d *lot) expr() *api.Expr {
	e := named(api.Var+d.Intn(2), []string{"a", "b", "t", "x", "v"}[d.Intn(5)])
	small := two(api.Mod, e, number(int64(2+d.Intn(3))))
	switch d.Intn(6) {
	case 0:
		return number(int64(d.Intn(3)))
	case 1:
		return two(api.Eq+d.Intn(4), e, d.expr())
	case 2:
		return &api.Expr{Code: api.Neg + d.Intn(2), Left: small}
	case 3:
		return two(api.Add+d.Intn(api.Or-api.Add+1), d.expr(), small)
	}
	return small
}

func (d *lot) sets() []api.Set {
	var l []api.Set
	for d.Intn(3) == 0 {
		name := []string{"t", "t", "x", "v"}[d.Intn(4)]
		d.marks++
		e := two(api.Add, two(api.Mul, named(api.Var, name), number(31)), number(d.marks))
		if d.Intn(4) == 0 {
			e = d.expr()
		}
		l = append(l, api.Set{Name: name, Expr: e})
	}
	return l
}

// way is one of the i-th of n states, from which those at once lead forth, or,
// if the region is turned round, back.
func (d *lot) way(i, n int, inside, turned bool) api.Way {
	w := api.Way{Kind: d.Intn(2), Times: 1, Back: d.Intn(2) == 0, Sets: d.sets()}
	if inside && d.Intn(2) == 0 {
		w.Kind = api.Join
	}
	to := d.Intn(n)
	switch {
	case !turned && i+1 < n && d.Intn(3) == 0:
		w.Now, to = true, i+1+d.Intn(n-i-1)
	case turned && i > 0 && d.Intn(3) == 0:
		w.Now, to = true, d.Intn(i)
	}
	if d.Intn(5) > 0 {
		w.When = d.expr()
	}
	if !w.Now && w.When != nil {
		w.Times = 1 + d.Intn(3)
	}
	w.To = fmt.Sprint("s", to)
	return w
}

func (d *lot) region(deep int) []api.State {
	n := 1 + d.Intn(min(4, d.states))
	d.states -= n
	first, turned := d.Intn(n), d.Intn(2) == 0
	var l []api.State
	for i := range n {
		s := api.State{Name: fmt.Sprint("s", i), First: i == first, Last: d.Intn(4) == 0, Enter: d.sets(), During: d.sets(), Leave: d.sets()}
		if d.Intn(6) == 0 {
			s.Rests = d.expr()
		}
		for !s.Last && deep > 0 && d.states > 0 && d.Intn(2) == 0 {
			s.Regions = append(s.Regions, d.region(deep-1))
		}
		for !s.Last && d.Intn(3) > 0 {
			s.Ways = append(s.Ways, d.way(i, n, len(s.Regions) > 0, turned))
		}
		l = append(l, s)
	}
	return l
}

// chart is one of so many levels.
func (d *lot) chart(deep int) api.Chart {
	c := api.Chart{Name: "c", Vars: []api.Declared{
		{Kind: api.In, Name: "a", First: 1}, {Kind: api.Out, Name: "t"}, {Kind: api.Own, Name: "v", First: -2},
		{Kind: api.In, Name: "b"}, {Kind: api.Out, Name: "x", First: 1},
	}}
	d.states = api.MaxStates
	for len(c.Regions) == 0 || d.states > 0 && d.Intn(3) == 0 {
		c.Regions = append(c.Regions, d.region(deep-1))
	}
	return c
}

// parsed is a chart as Parse tells it, if its text is not too long.
func (d *lot) parsed(deep int) (api.Chart, bool) {
	c, err := parse.Parse(parse.Print(d.chart(deep)))
	return c, err == nil
}

// told draws what a chart is told in a tick: mostly small numbers, now and then
// greater ones, too few or too many.
func (d *lot) told() []int64 {
	var l []int64
	for range d.Intn(7) {
		n := int64(d.Intn(5) - 1)
		if d.Intn(12) == 0 {
			n = []int64{math.MinInt64, math.MaxInt64, 1 << 32, -77}[d.Intn(4)]
		}
		l = append(l, n)
	}
	return l
}

// Promise 7.1: charts of one level to six, drawn by lot: the code does what
// they do.
func TestByLot(t *testing.T) {
	d := &lot{Rand: rand.New(rand.NewSource(7))}
	for deep := 1; deep <= api.MaxDepth; deep++ {
		for many := 0; many < 700; {
			if c, ok := d.parsed(deep); ok {
				many++
				if !same(t, d, c, 30) {
					return
				}
			}
		}
	}
}
