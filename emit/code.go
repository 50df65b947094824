package emit

import (
	"clepsydra/api"
)

// never is no place: where it stands for one at which it stands whether
// something is so, that is never so, and no code is written for it.
const never = -1

// coder writes code from its first step on. All steps are run in each tick, so
// what is not to be done always hangs on a place that is 1, if it is so, else 0.
type coder struct {
	net  api.Net
	vars map[string]variable
	nums map[int64]int // at which place a number stands
}

// variable is one of the chart: its places.
type variable struct {
	now   int
	was   int // never, as long as nobody asks
	first int64
}

// place is a new one. No place is used for two things, since whoever betters
// the code finds more in it then.
func (k *coder) place(first int64) int {
	k.net.First = append(k.net.First, first)
	k.net.Places++
	return k.net.Places - 1
}

// kept is a new place that is kept from tick to tick.
func (k *coder) kept(first int64) int {
	p := k.place(first)
	k.net.Keeps = append(k.net.Keeps, p)
	return p
}

// add writes a step. It throws the one that is too much, so that nothing is
// written any longer that is not handed out.
func (k *coder) add(s api.Step) {
	if len(k.net.Code) >= api.MaxCode {
		panic(api.ErrLimit)
	}
	k.net.Code = append(k.net.Code, s)
}

// made is a new place, at which a step puts what it makes.
func (k *coder) made(s api.Step) int {
	s.Dst = k.place(0)
	k.add(s)
	return s.Dst
}

// number is where a number stands. It is put there once, by the first one who
// asks: all steps behind that one find it there.
func (k *coder) number(n int64) int {
	p, ok := k.nums[n]
	if !ok {
		p = k.made(api.Step{Code: api.Num, A: len(k.net.Nums)})
		k.net.Nums = append(k.net.Nums, n)
		k.nums[n] = p
	}
	return p
}

// and is where it stands whether both are so, which may be any numbers.
func (k *coder) and(a, b int) int {
	if a == never || b == never {
		return never
	}
	return k.made(api.Step{Code: api.And, A: a, B: b})
}

// or is where it stands whether either is so.
func (k *coder) or(a, b int) int {
	if a == never {
		return b
	}
	if b == never {
		return a
	}
	return k.made(api.Step{Code: api.Or, A: a, B: b})
}

// butNot is where it stands whether a is so, and b is not; both are 0 or 1, so
// that one step will do.
func (k *coder) butNot(a, b int) int {
	if b == never {
		return a
	}
	if a == never || a == b {
		return never
	}
	return k.made(api.Step{Code: api.Lt, A: b, B: a})
}

// given is where it stands what stands at a place, if it is so, else 0.
func (k *coder) given(so, p int) int {
	return k.made(api.Step{Code: api.Pick, A: so, B: p, C: k.number(0)})
}

// put makes a place what another one is, if it is so.
func (k *coder) put(dst, so, from int) {
	k.add(api.Step{Code: api.Pick, Dst: dst, A: so, B: from, C: dst})
}

// do sets one by one, if it is so. What they come to is made whether it is so
// or not: that changes nothing.
func (k *coder) do(so int, sets []api.Set) {
	if so == never {
		return
	}
	for _, s := range sets {
		k.put(k.vars[s.Name].now, so, k.expr(s.Expr))
	}
}

// expr is where it stands what an expression comes to, until a variable is set.
func (k *coder) expr(e *api.Expr) int {
	if e == nil {
		return k.number(0)
	}
	switch e.Code {
	case api.Num:
		return k.number(e.Num)
	case api.Var:
		return k.vars[e.Name].now
	case api.Pre:
		return k.was(e.Name)
	case api.Neg, api.Not:
		return k.made(api.Step{Code: e.Code, A: k.expr(e.Left)})
	}
	if e.Code < api.Add || e.Code > api.Or {
		// No code of two comes to 0, whatever they are.
		return k.number(0)
	}
	left := k.expr(e.Left)
	right := k.expr(e.Right)
	return k.made(api.Step{Code: e.Code, A: left, B: right})
}

// was is where it stands what a variable was at the last tick's end.
func (k *coder) was(name string) int {
	v := k.vars[name]
	if v.was == never {
		v.was = k.kept(v.first)
		k.vars[name] = v
	}
	return v.was
}
