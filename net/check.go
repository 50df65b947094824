package net

import (
	"slices"

	"clepsydra/api"
)

// Asks are the places that a step asks.
func Asks(s api.Step) (_ []int) {
	switch {
	case s.Code == api.Var || s.Code == api.Neg || s.Code == api.Not:
		return []int{s.A}
	case s.Code >= api.Add && s.Code <= api.Or:
		return []int{s.A, s.B}
	case s.Code == api.Pick:
		return []int{s.A, s.B, s.C}
	}
	return nil
}

// Check says what is wrong with code. ErrLimit: not 0 to MaxCode places, or steps, or numbers, or inputs, outputs and what is kept together; ErrForm: not as many first numbers as places; ErrRange: an input, an output, or what is kept is none; ErrTwice: two inputs are one place; then step by step: an At at it.
func Check(n api.Net) (_ error) {
	isPlace := func(place int) bool { return place >= 0 && place < n.Places }
	if wrong := whole(n, isPlace); wrong != api.OK {
		return wrong
	}
	for i, s := range n.Code {
		if wrong := step(s, len(n.Nums), isPlace); wrong != api.OK {
			return &api.At{Err: wrong, Place: i}
		}
	}
	return nil
}

// whole is what is wrong with all of code but its steps.
func whole(n api.Net, isPlace func(place int) bool) api.Errno {
	if n.Places < 0 {
		return api.ErrLimit
	}
	for _, many := range [...]int{n.Places, len(n.Code), len(n.Nums), len(n.Ins) + len(n.Outs) + len(n.Keeps)} {
		if many > api.MaxCode {
			return api.ErrLimit
		}
	}
	if len(n.First) != n.Places {
		return api.ErrForm
	}
	for _, places := range [...][]int{n.Ins, n.Outs, n.Keeps} {
		if !all(places, isPlace) {
			return api.ErrRange
		}
	}
	// An output may be told twice, and kept, too; of two inputs at one place
	// the first one would be lost.
	if isTwice(n.Ins) {
		return api.ErrTwice
	}
	return api.OK
}

// step is what is wrong with one, where there are so many numbers.
func step(s api.Step, nums int, isPlace func(place int) bool) api.Errno {
	if s.Code < api.Num || s.Code > api.Pick || s.Code == api.Pre {
		return api.ErrForm
	}
	asked := Asks(s)
	if !isPlace(s.Dst) || !all(asked, isPlace) {
		return api.ErrRange
	}
	used := len(asked)
	if s.Code == api.Num {
		if s.A < 0 || s.A >= nums {
			return api.ErrRange
		}
		// A is no place that is asked, but it is for something.
		used = 1
	}
	for _, unused := range []int{s.A, s.B, s.C}[used:] {
		if unused != 0 {
			return api.ErrArg
		}
	}
	return api.OK
}

// all tells whether each of these is so.
func all(places []int, so func(place int) bool) bool {
	return !slices.ContainsFunc(places, func(place int) bool { return !so(place) })
}

// isTwice tells whether two of these are one.
func isTwice(places []int) bool {
	sorted := slices.Clone(places)
	slices.Sort(sorted)
	return len(slices.Compact(sorted)) < len(places)
}
