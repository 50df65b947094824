package emit

import (
	"slices"

	"clepsydra/api"
	"clepsydra/check"
)

// none stands for the number of a region's state, where no state is there.
const none = 0

// region is one of the chart. A place keeps the number of the state that is
// there in it. When what is around it is left, that stays: so it tells then
// which one was there. It begins as the first one's, so that who goes back
// where nothing was yet comes to the first one, all the way down.
type region struct {
	states []state
	order  []int // who is left at once stands ahead
	first  int
	there  int
	idle   bool // whatever goes on in it does nothing
	leaves bool // something may be set when what is there is left
}

// state is one of a region, as it is drawn, and what runs inside.
type state struct {
	drawn  *api.State
	ways   []way
	inside []*region
	idle   bool
	leaves bool
}

// way is one of a state, as it is drawn.
type way struct {
	drawn *api.Way
	to    int
	left  int // the place of how many times it must be so yet; never: it does not count
}

// lay gives a region, and all that is inside, its places. (It may be: one state
// is the first one, and each way leads to one of them.)
func (k *coder) lay(drawn []api.State) *region {
	g := &region{states: make([]state, len(drawn)), idle: true}
	g.order, _ = check.Order(drawn)
	g.first = slices.IndexFunc(drawn, func(s api.State) bool { return s.First })
	g.there = k.kept(numberOf(g.first))
	find := func(name string) int {
		return slices.IndexFunc(drawn, func(s api.State) bool { return s.Name == name })
	}
	for i := range drawn {
		s := k.layState(&drawn[i], find)
		g.idle = g.idle && s.idle
		g.leaves = g.leaves || s.leaves
		g.states[i] = s
	}
	return g
}

// layState is a state of a region, in which find tells where a way leads.
func (k *coder) layState(drawn *api.State, find func(name string) int) state {
	s := state{drawn: drawn, idle: len(drawn.During)+len(drawn.Ways) == 0, leaves: len(drawn.Leave) > 0}
	for _, states := range drawn.Regions {
		in := k.lay(states)
		s.idle = s.idle && in.idle
		s.leaves = s.leaves || in.leaves
		s.inside = append(s.inside, in)
	}
	for i := range drawn.Ways {
		w := way{drawn: &drawn.Ways[i], left: never}
		w.to = find(w.drawn.To)
		if w.drawn.Times > 1 {
			w.left = k.kept(0)
		}
		s.ways = append(s.ways, w)
	}
	return s
}

// numberOf is the number of a region's i-th state: none of them is none.
func numberOf(i int) int64 { return int64(i + 1) }

// is is where it stands whether a place has the number of the i-th state.
func (k *coder) is(p, i int) int {
	return k.made(api.Step{Code: api.Eq, A: p, B: k.number(numberOf(i))})
}
