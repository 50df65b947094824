// Package value: what numbers come to.
package value

import (
	"clepsydra/api"
)

// Env tells what variables are, and were.
type Env struct {
	Now func(name string) int64
	Was func(name string) int64
}

// One is what a code of one number comes to (Neg, Not); of others 0.
func One(code int, a int64) (_ int64) {
	switch code {
	case api.Neg:
		return -a
	case api.Not:
		return truth(a == 0)
	}
	return 0
}

// Two is what a code of two numbers comes to: all wraps; by 0 it is 0; of others 0.
func Two(code int, a, b int64) (_ int64) {
	// A code is a place in this array, so that those that stand ahead of the
	// codes of two numbers are nil in it, as no code of two numbers is.
	asked := [...]func(a, b int64) int64{
		api.Add: func(a, b int64) int64 { return a + b },
		api.Sub: func(a, b int64) int64 { return a - b },
		api.Mul: func(a, b int64) int64 { return a * b },
		api.Div: quotient,
		api.Mod: rest,
		api.Eq:  func(a, b int64) int64 { return truth(a == b) },
		api.Ne:  func(a, b int64) int64 { return truth(a != b) },
		api.Lt:  func(a, b int64) int64 { return truth(a < b) },
		api.Le:  func(a, b int64) int64 { return truth(a <= b) },
		api.And: func(a, b int64) int64 { return truth(a != 0 && b != 0) },
		api.Or:  func(a, b int64) int64 { return truth(a != 0 || b != 0) },
	}
	if code < 0 || code >= len(asked) || asked[code] == nil {
		return 0
	}
	return asked[code](a, b)
}

// Pick is the second one, if the first one is not 0, else the third one.
func Pick(a, b, c int64) (_ int64) {
	if a != 0 {
		return b
	}
	return c
}

// Eval is what an expression comes to (nil: 0).
func Eval(e *api.Expr, env Env) (_ int64) {
	if e == nil {
		return 0
	}
	switch e.Code {
	case api.Num:
		return e.Num
	case api.Var:
		return ask(env.Now, e.Name)
	case api.Pre:
		return ask(env.Was, e.Name)
	case api.Neg, api.Not:
		return One(e.Code, Eval(e.Left, env))
	}
	// Both sides are asked whatever the code is, the left one first: whoever
	// tells the variables may see it.
	left := Eval(e.Left, env)
	right := Eval(e.Right, env)
	return Two(e.Code, left, right)
}

// ask is what tell says of a name. No call may panic, whatever it is given: of
// a tell that is missing, or that panics, the name is 0.
func ask(tell func(name string) int64, name string) (n int64) {
	if tell == nil {
		return 0
	}
	defer func() {
		if recover() != nil {
			n = 0
		}
	}()
	return tell(name)
}

// quotient is cut to the side of 0, as the language's own; by 0 that one would
// panic.
func quotient(a, b int64) int64 {
	if b == 0 {
		return 0
	}
	return a / b
}

// rest is a less b times the quotient, but by 0 it is 0, and not a.
func rest(a, b int64) int64 {
	if b == 0 {
		return 0
	}
	return a % b
}

// truth is 1 of what is so, else 0.
func truth(so bool) int64 {
	if so {
		return 1
	}
	return 0
}
