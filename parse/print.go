package parse

import (
	"strconv"

	"clepsydra/api"
)

// indent stands ahead of a line for each { in which it stands.
const indent = "  "

// Expr writes an expression, with as few ( and ) as there can be.
func Expr(e *api.Expr) (_ string) {
	var w writer
	w.expr(e, 0)
	return string(w.text)
}

// Print is a text that draws just that (of what Parse told).
func Print(c api.Chart) (_ string) {
	var w writer
	w.say("chart ", c.Name)
	w.braced(func() {
		for _, v := range c.Vars {
			w.variable(v)
		}
		w.regions(c.Regions)
	})
	return string(w.text)
}

// writer gathers a text, all of it in one list: texts put together at each
// depth would be copied as often as they are deep.
type writer struct {
	text []byte
	deep int // in how many { it is
}

// say writes texts one behind the other.
func (w *writer) say(l ...string) {
	for _, s := range l {
		w.text = append(w.text, s...)
	}
}

// begin writes what stands ahead of a line.
func (w *writer) begin() {
	for range w.deep {
		w.say(indent)
	}
}

// braced ends a line with {, and writes what is inside, and a line with }.
func (w *writer) braced(inside func()) {
	w.say(" {\n")
	w.deep++
	inside()
	w.deep--
	w.begin()
	w.say("}\n")
}

// variable writes one.
func (w *writer) variable(v api.Declared) {
	w.begin()
	w.say(wordOf(v.Kind), " ", v.Name)
	if v.First != 0 {
		w.say(" := ", strconv.FormatInt(v.First, 10))
	}
	w.say(";\n")
}

// regions writes them one behind the other.
func (w *writer) regions(l [][]api.State) {
	for _, states := range l {
		w.begin()
		w.say("region")
		w.braced(func() {
			for _, s := range states {
				w.state(s)
			}
		})
	}
}

// state writes one.
func (w *writer) state(s api.State) {
	w.begin()
	if s.First {
		w.say("initial ")
	}
	if s.Last {
		w.say("final ")
	}
	w.say("state ", s.Name)
	if isBare(s) {
		w.say(";\n")
		return
	}
	w.braced(func() { w.parts(s) })
}

// isBare tells whether there is nothing in a state.
func isBare(s api.State) bool {
	sets := len(s.Enter) + len(s.During) + len(s.Leave)
	return sets == 0 && s.Rests == nil && len(s.Ways) == 0 && len(s.Regions) == 0
}

// parts writes what is in a state.
func (w *writer) parts(s api.State) {
	w.moment("entry ", s.Enter)
	w.moment("during ", s.During)
	w.moment("exit ", s.Leave)
	if s.Rests != nil {
		w.begin()
		w.say("suspend ")
		w.expr(s.Rests, 0)
		w.say(";\n")
	}
	for _, way := range s.Ways {
		w.way(way)
	}
	w.regions(s.Regions)
}

// moment writes what is set then; nothing, if nothing is.
func (w *writer) moment(word string, sets []api.Set) {
	if len(sets) == 0 {
		return
	}
	w.begin()
	w.say(word)
	w.sets(sets)
	w.say(";\n")
}

// sets writes what is set.
func (w *writer) sets(l []api.Set) {
	for i, s := range l {
		if i > 0 {
			w.say(", ")
		}
		w.say(s.Name, " := ")
		w.expr(s.Expr, 0)
	}
}

// way writes one.
func (w *writer) way(way api.Way) {
	w.begin()
	w.say(leadBy(way.Kind))
	if way.Now {
		w.say(" immediate")
	}
	if way.When != nil {
		w.say(" if ")
		if way.Times > 1 {
			w.say("count ", strconv.Itoa(way.Times), " ")
		}
		w.expr(way.When, 0)
	}
	if len(way.Sets) > 0 {
		w.say(" do ")
		w.sets(way.Sets)
	}
	w.say(" --> ", way.To)
	if way.Back {
		w.say(" history")
	}
	w.say(";\n")
}

// expr writes an expression where what binds less tightly than that must
// stand in brackets.
func (w *writer) expr(e *api.Expr, tight int) {
	if e == nil {
		return
	}
	switch e.Code {
	case api.Num:
		w.say(strconv.FormatInt(e.Num, 10))
		return
	case api.Var:
		w.say(e.Name)
		return
	case api.Pre:
		w.say("pre(", e.Name, ")")
		return
	}
	if s := signAhead(e.Code); s != "" {
		w.say(s)
		w.expr(e.Left, len(between))
		return
	}
	if s, own := signBetween(e.Code); s != "" {
		w.chain(e, s, own, own < tight)
	}
}

// chain writes what stands at both sides of a sign that binds so tightly. It
// is read from the left, so that at the right the same sign needs brackets.
func (w *writer) chain(e *api.Expr, sign string, tight int, brackets bool) {
	if brackets {
		w.say("(")
	}
	w.expr(e.Left, tight)
	w.say(" ", sign, " ")
	w.expr(e.Right, tight+1)
	if brackets {
		w.say(")")
	}
}
