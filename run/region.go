package run

import (
	"clepsydra/api"
)

// region is one of the chart: where it begins, and what is there.
type region struct {
	first *state
	there *state // nil: none
	was   *state // which one was left last; nil: none
}

// state is one of a region, as it is drawn, and what runs inside.
type state struct {
	drawn  api.State
	ways   []way
	inside []*region
}

// way is one of a state, as it is drawn.
type way struct {
	drawn api.Way
	to    *state
	so    int // how often it was so since its state was entered
}

// layAll are regions in which nothing is there.
func layAll(drawn [][]api.State) []*region {
	var l []*region
	for _, states := range drawn {
		l = append(l, lay(states))
	}
	return l
}

// lay is one such region. (It may be: one state is the first one, and each way
// leads to one of them.)
func lay(drawn []api.State) *region {
	g := &region{}
	states := make([]state, len(drawn))
	places := make(map[string]int, len(drawn))
	for i, s := range drawn {
		states[i] = state{drawn: s, inside: layAll(s.Regions)}
		places[s.Name] = i
		if s.First {
			g.first = &states[i]
		}
	}
	for i, s := range drawn {
		for _, w := range s.Ways {
			to := &states[places[w.To]]
			states[i].ways = append(states[i].ways, way{drawn: w, to: to})
		}
	}
	return g
}

// appendThere adds the names of what is there, each ahead of those inside.
func appendThere(l []string, regions []*region) []string {
	for _, g := range regions {
		if g.there != nil {
			l = append(l, g.there.drawn.Name)
			l = appendThere(l, g.there.inside)
		}
	}
	return l
}

// enter enters a region's state.
func (r *Runner) enter(g *region, s *state, back bool) {
	r.follow(g, r.arrive(g, s, back))
}

// goOn is a tick of what is there in a region.
func (r *Runner) goOn(g *region) {
	r.follow(g, r.pass(g))
}

// follow takes a way, and what is open at once where that leads; nil is none.
// Nothing is left to do behind a way that is taken, so that a loop will do
// where there may be more of them than calls can be nested.
func (r *Runner) follow(g *region, w *way) {
	for w != nil {
		r.leave(g)
		r.do(w.drawn.Sets)
		w = r.arrive(g, w.to, w.drawn.Back)
	}
}

// arrive is all of entering a state but for the way that is open then, which
// it tells; nil, if none is.
func (r *Runner) arrive(g *region, s *state, back bool) *way {
	g.there = s
	for i := range s.ways {
		s.ways[i].so = 0
	}
	r.do(s.drawn.Enter)
	if w := r.open(s, func(w *api.Way) bool { return w.Now && w.Kind == api.Strong }); w != nil {
		return w
	}
	for _, in := range s.inside {
		if back && in.was != nil {
			r.enter(in, in.was, true)
		} else {
			r.enter(in, in.first, false)
		}
	}
	return r.open(s, func(w *api.Way) bool { return w.Now && w.Kind != api.Strong })
}

// pass is all of going on but for the way that is open then, which it tells;
// nil, if none is.
func (r *Runner) pass(g *region) *way {
	s := g.there
	if w := r.open(s, func(w *api.Way) bool { return w.Kind == api.Strong }); w != nil {
		return w
	}
	if r.eval(s.drawn.Rests) != 0 {
		return nil
	}
	r.do(s.drawn.During)
	for _, in := range s.inside {
		r.goOn(in)
	}
	return r.open(s, func(w *api.Way) bool { return w.Kind != api.Strong })
}

// leave leaves what is there in a region, what is inside first. A state that a
// strong way left as soon as it was entered has nothing inside yet.
func (r *Runner) leave(g *region) {
	s := g.there
	if s == nil {
		return
	}
	for _, in := range s.inside {
		r.leave(in)
	}
	r.do(s.drawn.Leave)
	g.there, g.was = nil, s
}

// open is the first open one of a state's ways that are asked; nil, if none
// is. Those behind it are not asked, so that they do not count.
func (r *Runner) open(s *state, asked func(w *api.Way) bool) *way {
	over := func() bool {
		for _, in := range s.inside {
			if in.there == nil || !in.there.drawn.Last {
				return false
			}
		}
		return true
	}
	for i := range s.ways {
		w := &s.ways[i]
		if asked(&w.drawn) && r.isOpen(w, over) {
			return w
		}
	}
	return nil
}

// isOpen asks a way, and counts it, if it is so; over tells whether all that
// is inside its state is over.
func (r *Runner) isOpen(w *way, over func() bool) bool {
	if w.drawn.Kind == api.Join && !over() {
		return false
	}
	if w.drawn.When != nil && r.eval(w.drawn.When) == 0 {
		return false
	}
	w.so++
	return w.so >= w.drawn.Times
}
