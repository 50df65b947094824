package check

import (
	"slices"

	"clepsydra/api"
)

// told marks a state that is told already: no state waits for fewer than none.
const told = -1

// Order are a region's states, each ahead of those to which ways lead at once (the first one that may be next stands first); false: there is no such order.
func Order(region []api.State) (_ []int, _ bool) {
	find := stateFinder(region)
	// How many ways with Now lead to a state from those that are not told.
	waits := make([]int, len(region))
	count := func(from, by int) {
		for _, w := range region[from].Ways {
			if to := find(w.To); w.Now && to >= 0 {
				waits[to] += by
			}
		}
	}
	for i := range region {
		count(i, 1)
	}
	order := make([]int, 0, len(region))
	for range region {
		next := slices.Index(waits, 0)
		if next < 0 {
			return nil, false
		}
		order = append(order, next)
		waits[next] = told
		count(next, -1)
	}
	return order, true
}

// stateFinder tells where a region's state of a name stands.
func stateFinder(region []api.State) func(name string) int {
	return finder(len(region), func(i int) string { return region[i].Name })
}

// finder tells of so many names where one stands: of several the first one; -1,
// if it is none of them.
func finder(many int, name func(i int) string) func(name string) int {
	places := make(map[string]int, many)
	// From the last one on, so that the first one stays.
	for i := many - 1; i >= 0; i-- {
		places[name(i)] = i
	}
	return func(name string) int {
		if i, ok := places[name]; ok {
			return i
		}
		return -1
	}
}
