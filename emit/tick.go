package emit

import (
	"clepsydra/api"
)

// arrivals are by what a region's states are entered in a tick, state by state:
// the places at which it stands whether they are, and whether that is back.
type arrivals [][]arrival

type arrival struct {
	so   int
	back bool
}

// add adds one of the i-th state.
func (l arrivals) add(i, so int, back bool) {
	l[i] = append(l[i], arrival{so, back})
}

// choice is a way that may be taken, and where it stands whether it is.
type choice struct {
	way *way
	so  int
}

// tick is all that a tick does with what runs side by side in the chart.
func (k *coder) tick(drawn [][]api.State) {
	// It is not kept, and nothing is put there: 1 in the first tick, 0 later.
	begin := k.place(1)
	for _, states := range drawn {
		g := k.lay(states)
		// None is there until the first one is entered.
		k.net.First[g.there] = none
		into := make(arrivals, len(g.states))
		into.add(g.first, begin, false)
		k.goOn(g, g.there, into)
	}
}

// goOn is a region in a tick: the state whose number stands at here goes on,
// and states are entered; into has those already that are entered whatever
// goes on. No state's number changes ahead of all that go on.
func (k *coder) goOn(g *region, here int, into arrivals) {
	for i := range g.states {
		if s := &g.states[i]; !s.idle {
			k.stateGoesOn(s, k.is(here, i), into)
		}
	}
	k.enterAll(g, into)
}

// stateGoesOn is a state that goes on, if it is so. Who takes a strong way does
// nothing of what stands behind it but to leave, as who takes another one: so
// both leave in the same steps.
func (k *coder) stateGoesOn(s *state, so int, into arrivals) {
	ways, stops := k.choose(s, so, func(w *api.Way) bool { return w.Kind == api.Strong })
	on := k.butNot(so, stops)
	if s.drawn.Rests != nil && on != never {
		on = k.made(api.Step{Code: api.Pick, A: k.expr(s.drawn.Rests), B: k.number(0), C: on})
	}
	k.do(on, s.drawn.During)
	for _, in := range s.inside {
		if on != never && !in.idle {
			k.goOn(in, k.given(on, in.there), make(arrivals, len(in.states)))
		}
	}
	others, ends := k.choose(s, on, func(w *api.Way) bool { return w.Kind != api.Strong })
	if s.leaves {
		gone := k.or(stops, ends)
		k.leave(s.inside, gone)
		k.do(gone, s.drawn.Leave)
	}
	k.take(ways, into)
	k.take(others, into)
}

// enter is a region that is entered from around it, if it is so; back is where
// it stands whether that is back.
func (k *coder) enter(g *region, so, back int) {
	if so == never {
		return
	}
	into := make(arrivals, len(g.states))
	if back != never {
		was := k.given(back, g.there)
		for i := range g.states {
			into.add(i, k.is(was, i), true)
		}
	}
	into.add(g.first, k.butNot(so, back), false)
	k.enterAll(g, into)
}

// enterAll is a region's states being entered. Ways at once lead to those that
// stand behind in their order alone, so that each is come to once.
func (k *coder) enterAll(g *region, into arrivals) {
	for _, i := range g.order {
		so := never
		for _, a := range into[i] {
			so = k.or(so, a.so)
		}
		if so != never {
			k.put(g.there, so, k.number(numberOf(i)))
			k.enterState(&g.states[i], so, k.back(&g.states[i], into[i]), into)
		}
	}
}

// back is where it stands whether a state is entered back, if that matters.
func (k *coder) back(s *state, by []arrival) int {
	back := never
	for _, a := range by {
		if a.back && len(s.inside) > 0 {
			back = k.or(back, a.so)
		}
	}
	return back
}

// enterState is a state that is entered, if it is so, and perhaps back.
func (k *coder) enterState(s *state, so, back int, into arrivals) {
	for _, w := range s.ways {
		if w.left != never {
			k.put(w.left, so, k.number(int64(w.drawn.Times)))
		}
	}
	k.do(so, s.drawn.Enter)
	ways, stops := k.choose(s, so, func(w *api.Way) bool { return w.Now && w.Kind == api.Strong })
	on := k.butNot(so, stops)
	if on != so {
		back = k.and(on, back)
	}
	for _, in := range s.inside {
		k.enter(in, on, back)
	}
	others, ends := k.choose(s, on, func(w *api.Way) bool { return w.Now && w.Kind != api.Strong })
	if s.leaves {
		// Who stops has nothing inside yet.
		k.leave(s.inside, ends)
		k.do(k.or(stops, ends), s.drawn.Leave)
	}
	k.take(ways, into)
	k.take(others, into)
}

// choose are a state's ways of which the first open one is taken, if it is so,
// and where it stands whether any is.
func (k *coder) choose(s *state, so int, asked func(w *api.Way) bool) ([]choice, int) {
	var l []choice
	rest, ahead, taken := so, never, never
	for i := range s.ways {
		w := &s.ways[i]
		if so == never || !asked(w.drawn) {
			continue
		}
		rest = k.butNot(rest, ahead)
		ahead = k.isOpen(s, w, rest)
		l = append(l, choice{w, ahead})
		if ahead == rest {
			// It is always open: those behind it are never asked.
			return l, so
		}
		taken = k.or(taken, ahead)
	}
	return l, taken
}

// isOpen is where it stands whether a way is open that is asked, if it is so;
// it counts.
func (k *coder) isOpen(s *state, w *way, so int) int {
	if w.drawn.Kind == api.Join {
		for _, in := range s.inside {
			so = k.and(so, k.isOver(in))
		}
	}
	if so == never {
		return never
	}
	if w.drawn.When != nil {
		so = k.and(so, k.expr(w.drawn.When))
	}
	if w.left != never {
		// It counts down to 0, which is below the 1 of who is so.
		k.add(api.Step{Code: api.Sub, Dst: w.left, A: w.left, B: so})
		so = k.made(api.Step{Code: api.Lt, A: w.left, B: so})
	}
	return so
}

// isOver is where it stands whether a last state is there in a region.
func (k *coder) isOver(g *region) int {
	over := never
	for i := range g.states {
		if g.states[i].drawn.Last {
			over = k.or(over, k.is(g.there, i))
		}
	}
	return over
}

// leave is what is there in regions being left, if it is so.
func (k *coder) leave(regions []*region, so int) {
	for _, g := range regions {
		if so == never || !g.leaves {
			continue
		}
		here := k.given(so, g.there)
		for i := range g.states {
			if s := &g.states[i]; s.leaves {
				gone := k.is(here, i)
				k.leave(s.inside, gone)
				k.do(gone, s.drawn.Leave)
			}
		}
	}
}

// take are ways that are taken, behind what is left: what they set, and where
// they lead.
func (k *coder) take(ways []choice, into arrivals) {
	for _, c := range ways {
		k.do(c.so, c.way.drawn.Sets)
		into.add(c.way.to, c.so, c.way.drawn.Back)
	}
}
