package image

import (
	"strings"

	"clepsydra/api"
	"clepsydra/net"
)

// Read is the code that bytes are: those of which Write tells just these. ErrForm; net.Check's errors.
func Read(s string) (_ api.Net, _ error) {
	rest, headed := strings.CutPrefix(s, head)
	if !headed {
		return api.Net{}, api.ErrForm
	}
	r := &reader{rest: rest}
	n := r.code()
	if r.wrong || r.rest != "" {
		return api.Net{}, api.ErrForm
	}
	if err := net.Check(n); err != nil {
		return api.Net{}, err
	}
	return n, nil
}

// longest is how many bytes a number takes at most: seven bits each, of 64.
const longest = 10

// reader takes numbers from bytes. From the first wrong one on all of them are 0:
// lists end then, so that it is enough to ask once, at the end.
type reader struct {
	rest  string
	wrong bool
}

// code takes all, in the order in which Write puts it.
func (r *reader) code() api.Net {
	var n api.Net
	n.Places = r.small()
	n.First = r.numbers()
	n.Ins = r.smalls()
	n.Outs = r.smalls()
	n.Keeps = r.smalls()
	n.Nums = r.numbers()
	for range r.small() {
		n.Code = append(n.Code, r.step())
	}
	return n
}

// step takes one. Its code is taken first, since it says what stands behind it; of a
// code that is none that is where it puts something, alone.
func (r *reader) step() api.Step {
	s := api.Step{Code: r.small()}
	for _, at := range told(&s)[1:] {
		*at = r.small()
	}
	return s
}

// numbers takes how many they are, and they.
func (r *reader) numbers() []int64 {
	var l []int64
	for range r.small() {
		l = append(l, r.number())
	}
	return l
}

// smalls does so with small ones.
func (r *reader) smalls() []int {
	var l []int
	for range r.small() {
		l = append(l, r.small())
	}
	return l
}

// small takes a number from 0 to MaxCode.
func (r *reader) small() int {
	number := r.number()
	if number < 0 || number > api.MaxCode {
		r.fail()
		return 0
	}
	return int(number)
}

// number takes one that is put as Write puts it: other bytes may come to it, too, if
// there are more of them, or if their bits go beyond 64.
func (r *reader) number() int64 {
	var bits uint64
	for i := range min(len(r.rest), longest) {
		bits |= uint64(r.rest[i]&127) << (7 * i)
		if r.rest[i] >= 128 {
			continue
		}
		number, taken := unwoven(bits), r.rest[:i+1]
		if string(add(nil, number)) != taken {
			break
		}
		r.rest = r.rest[i+1:]
		return number
	}
	r.fail()
	return 0
}

// fail leaves nothing to be taken.
func (r *reader) fail() { r.rest, r.wrong = "", true }
