package num

import (
	"math/bits"

	"fleuron/api"
)

// Near returns a sum, difference, product or quotient, as near as there is a number.
func Near(op string, a, b api.Num) (api.Num, api.Errno) {
	p, q, e := exact(op, a, b)
	if e != api.OK {
		return api.Num{}, e
	}
	v, e := Make(p, q)
	if e == api.ErrRange {
		return nearest(p, q)
	}
	return v, e
}

// nearest returns p / q rounded to a fixed number, as a number; q is not 0.
func nearest(p, q int64) (api.Num, api.Errno) {
	if q < 0 {
		p, q = -p, -q
	}
	whole, rest := divide(p, q)
	// Beyond these bounds no rest makes it a number, and the fixed number might be no int64.
	if whole < -api.MaxNum-1 || whole > api.MaxNum {
		return api.Num{}, api.ErrRange
	}
	return Make(whole*api.Unit+units(rest, q), api.Unit)
}

// units returns floor(Unit rest / q + 1/2), for a rest from 0 up to q; Unit times it may have more than 64 bits.
func units(rest, q int64) int64 {
	high, low := bits.Mul64(2*api.Unit, uint64(rest))
	low, carry := bits.Add64(low, uint64(q), 0)
	n, _ := bits.Div64(high+carry, low, 2*uint64(q))
	return int64(n)
}

// Fixed returns a number as a fixed one.
func Fixed(a api.Num) (int, api.Errno) {
	if !Valid(a) {
		return 0, api.ErrArg
	}
	whole, rest := divide(a.P, a.Q)
	return int(whole*api.Unit + units(rest, a.Q)), api.OK
}

// FromFixed returns a fixed number as a number.
func FromFixed(n int) (api.Num, api.Errno) { return Make(int64(n), api.Unit) }
