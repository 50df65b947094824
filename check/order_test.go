package check

import (
	"fmt"
	"reflect"
	"slices"
	"strings"
	"testing"

	"clepsydra/api"
)

// ordered fails the test unless the states of a region's text have that order,
// by their names; "-": they have none.
func ordered(t *testing.T, s, want string) {
	t.Helper()
	region := draw(t, "chart c { region { "+s+" } }").Regions[0]
	l, ok := Order(region)
	got := "-"
	if ok {
		names := []string{}
		for _, i := range l {
			names = append(names, region[i].Name)
		}
		got = strings.Join(names, " ")
	} else if l != nil {
		t.Errorf("%q: %v beside false", s, l)
	}
	if got != want {
		t.Errorf("%q: order %s; want %s", s, got, want)
	}
}

// Promise 4.1: regions with an order.
func TestOrder(t *testing.T) {
	ordered(t, "", "")
	ordered(t, "state p;", "p")
	ordered(t, "state p; state q; state r;", "p q r")
	ordered(t, "state r; state q; state p;", "r q p")
	ordered(t, "state p { go immediate --> q; } state q;", "p q")
	ordered(t, "state p; state q { go immediate --> p; }", "q p")
	ordered(t, "state p; state q; state r { go immediate --> p; }", "q r p")
	ordered(t, "state p; state q { go immediate --> p; } state r { go immediate --> q; }", "r q p")
	ordered(t, "state p; state q; state r { go immediate --> p; go immediate --> q; } state s;", "r p q s")
	ordered(t, "state p; state q { go immediate --> p; } state r; state s { go immediate --> p; }", "q r s p")
	ordered(t, "state p; state q { abort immediate --> p; } state r { join immediate --> q; }", "r q p")
	ordered(t, "state p { go immediate --> q; go immediate --> q; } state q { go immediate --> r; } state r;", "p q r")
	// As soon as it may be next, the first one is, ahead of those behind it.
	ordered(t, "state p; state q { go immediate --> p; } state r;", "q p r")
	ordered(t, "state p; state q { go immediate --> p; } state r { go immediate --> q; } state s; state u;", "r q p s u")
	// What must be so is not asked.
	ordered(t, "state p; state q { go immediate if 0 do x := 1 --> p history; }", "q p")
	// Which one is First, or Last, is nothing.
	ordered(t, "state p; initial state q; final state r;", "p q r")
}

// Promise 4.1: ways without Now lead nowhere here; nor do those inside a state,
// nor those to what is no state of the region.
func TestOrderOfOtherWays(t *testing.T) {
	ordered(t, "state p { go --> p; abort --> q; } state q { go --> p; join --> q; }", "p q")
	ordered(t, "state p { go immediate --> q; } state q { go --> p; }", "p q")
	ordered(t, "state p { go --> q; } state q { go immediate --> p; }", "q p")
	ordered(t, "state p { go immediate --> z; } state q { go immediate --> P; }", "p q")
	ordered(t, "state p; state q { region { state r { go immediate --> p; } state p { go immediate --> p; } } }", "p q")
}

// Promise 4.1: regions without one.
func TestNoOrder(t *testing.T) {
	ordered(t, "state p { go immediate --> p; }", "-")
	ordered(t, "state p { abort immediate if 0 --> p; }", "-")
	ordered(t, "state p { go --> p; go immediate --> p; }", "-")
	ordered(t, "state p; state q; state r { go immediate --> r; }", "-")
	ordered(t, "state p { go immediate --> q; } state q { go immediate --> p; }", "-")
	ordered(t, "state o; state p { go immediate --> q; } state q { go immediate --> r; } state r { go immediate --> p; }", "-")
	ordered(t, "state o { go immediate --> p; } state p { go immediate --> q; } state q { go immediate --> p; } state r;", "-")
	ordered(t, "state o; state p { go immediate --> q; go immediate --> o; } state q { go immediate --> p; } state r;", "-")
}

// byWords is 4.1, as its words stand.
func byWords(region []api.State) ([]int, bool) {
	var l []int
	leads := func(from, to int) bool {
		return slices.ContainsFunc(region[from].Ways, func(w api.Way) bool { return w.Now && w.To == region[to].Name })
	}
	for len(l) < len(region) {
		next := -1
		for i := len(region) - 1; i >= 0; i-- {
			free := !slices.Contains(l, i)
			for j := range region {
				if !slices.Contains(l, j) && leads(j, i) {
					free = false
				}
			}
			if free {
				next = i
			}
		}
		if next < 0 {
			return nil, false
		}
		l = append(l, next)
	}
	return l, true
}

// goesRound tells whether some state comes back to itself at once.
func goesRound(n int, leads func(i, j int) bool) bool {
	to := make([][]bool, n)
	for i := range to {
		to[i] = make([]bool, n)
		for j := range to[i] {
			to[i][j] = leads(i, j)
		}
	}
	for k := range n {
		for i := range n {
			for j := range n {
				to[i][j] = to[i][j] || to[i][k] && to[k][j]
			}
		}
	}
	for i := range n {
		if to[i][i] {
			return true
		}
	}
	return false
}

// Promise 4.1: all ways with Now among up to four states, with others beside.
func TestOrderOfAll(t *testing.T) {
	for n := range 5 {
		for bits := range 1 << (n * n) {
			leads := func(i, j int) bool { return bits>>(i*n+j)&1 != 0 }
			region := make([]api.State, n)
			for i := range region {
				region[i].Name = fmt.Sprint("s", i)
				for j := range n {
					w := api.Way{Kind: (i + j) % 3, Now: leads(i, j), Times: 1, To: fmt.Sprint("s", j)}
					if w.Now || (bits+i+j)%3 == 0 {
						region[i].Ways = append(region[i].Ways, w)
					}
				}
			}
			got, ok := Order(region)
			want, so := byWords(region)
			if ok != so || !slices.Equal(got, want) || ok == goesRound(n, leads) {
				t.Fatalf("%d states, ways %b: %v, %v; want %v, %v", n, bits, got, ok, want, so)
			}
		}
	}
}

// Rule P4: what comes out is the caller's, each time anew, and the region is
// left as it was.
func TestOrderIsFresh(t *testing.T) {
	const s = "chart c { region { state p; state q { go immediate --> p; } state r { go immediate --> q; go --> p; } } }"
	region := draw(t, s).Regions[0]
	a, _ := Order(region)
	b, _ := Order(region)
	clear(a[:cap(a)])
	c, ok := Order(region)
	want := []int{2, 1, 0}
	if !ok || !slices.Equal(b, want) || !slices.Equal(c, want) {
		t.Errorf("%v, %v; want %v", b, c, want)
	}
	if !reflect.DeepEqual(region, draw(t, s).Regions[0]) {
		t.Error("the region was written into")
	}
}

// Rule P1: regions that no text draws.
func TestOrderOfOddRegions(t *testing.T) {
	for _, c := range []struct {
		what   string
		region []api.State
		ok     bool
		many   int
	}{
		{"nil", nil, true, 0},
		{"no names", []api.State{{}, {}, {}}, true, 3},
		{"a way to no name", []api.State{{Name: "p", Ways: []api.Way{{Now: true}}}}, true, 1},
		{"a way from no name to itself", []api.State{{Ways: []api.Way{{Now: true}}}}, false, 0},
		{"a way of no kind", []api.State{{Name: "p", Ways: []api.Way{{Kind: -5, Now: true, To: "p"}}}}, false, 0},
	} {
		if l, ok := Order(c.region); ok != c.ok || len(l) != c.many {
			t.Errorf("%s: %v, %v", c.what, l, ok)
		}
	}
}
