package num_test

import (
	"math"
	"math/big"
	"math/rand/v2"
	"testing"

	"fleuron/api"
)

// number is a short way to write a number that is in lowest terms.
func number(p, q int64) api.Num { return api.Num{P: p, Q: q} }

// invalid are numbers that are not valid, each for a reason of its own.
var invalid = []api.Num{
	number(0, 0), number(1, 0), number(-1, 0),
	number(1, -1), number(0, -1), number(-3, -2), number(3, -2),
	number(0, 2), number(0, api.MaxNum), number(2, 2), number(2, 4), number(-3, 9), number(-6, 4), number(65536, 65536),
	number(api.MaxNum, api.MaxNum),
	number(api.MaxNum+1, 1), number(-api.MaxNum-1, 1), number(1, api.MaxNum+1), number(-1, api.MaxNum+1),
	number(api.MaxNum+1, 3), number(3, api.MaxNum+1), number(1<<32, 1), number(1<<32+1, 1), number(1, 1<<32+1),
	number(math.MaxInt64, 1), number(math.MinInt64, 1), number(1, math.MaxInt64), number(1, math.MinInt64),
	number(math.MinInt64, math.MinInt64), number(math.MaxInt64, math.MaxInt64), number(math.MinInt64, math.MaxInt64),
	number(0, math.MinInt64), number(math.MinInt64, 0),
}

// samples returns valid numbers: small ones, those about powers of 2 and the limits, and some without a plan.
func samples() []api.Num {
	edges := []int64{1, 2, 3, 4, 5, 7, 10, 65535, 65536, 65537, 131071, 131072, 1 << 30, api.MaxNum - 1, api.MaxNum}
	var l []api.Num
	keep := func(p, q int64) {
		if v, e := exactNumber(big.NewRat(p, q)); e == api.OK && v == number(p, q) {
			l = append(l, v)
		}
	}
	for _, q := range edges {
		keep(0, q)
		for _, p := range edges {
			keep(p, q)
			keep(-p, q)
		}
	}
	r := rand.New(rand.NewPCG(1, 2))
	for range 60 {
		keep(r.Int64N(2*api.MaxNum+1)-api.MaxNum, r.Int64N(api.MaxNum)+1)
		keep(r.Int64N(2001)-1000, r.Int64N(1000)+1)
		keep(r.Int64N(2*api.MaxNum+1)-api.MaxNum, r.Int64N(1000)+1)
		keep(r.Int64N(2001)-1000, r.Int64N(api.MaxNum)+1)
	}
	return l
}

// few returns every n-th one of the samples.
func few(n int) []api.Num {
	var l []api.Num
	for i, a := range samples() {
		if i%n == 0 {
			l = append(l, a)
		}
	}
	return l
}

// rat returns the exact value of a number.
func rat(a api.Num) *big.Rat { return big.NewRat(a.P, a.Q) }

// exactNumber returns an exact value as a number.
func exactNumber(v *big.Rat) (api.Num, api.Errno) {
	most := big.NewInt(api.MaxNum)
	if v.Num().CmpAbs(most) > 0 || v.Denom().Cmp(most) > 0 {
		return api.Num{}, api.ErrRange
	}
	return number(v.Num().Int64(), v.Denom().Int64()), api.OK
}

// floor returns the greatest integer that is at most v.
func floor(v *big.Rat) *big.Int {
	// Div of big rounds down where the divisor is above 0.
	return new(big.Int).Div(v.Num(), v.Denom())
}

// fixed returns floor(65,536 v + 1/2).
func fixed(v *big.Rat) *big.Int {
	w := new(big.Rat).Mul(v, big.NewRat(65536, 1))
	return floor(w.Add(w, big.NewRat(1, 2)))
}

// nearNumber returns an exact value as a number, or as a near one.
func nearNumber(v *big.Rat) (api.Num, api.Errno) {
	if a, e := exactNumber(v); e == api.OK {
		return a, e
	}
	return exactNumber(new(big.Rat).SetFrac(fixed(v), big.NewInt(65536)))
}

// exactly returns the exact result of an operation; there is none of a division by 0.
func exactly(op string, a, b api.Num) (*big.Rat, bool) {
	v := new(big.Rat)
	switch op {
	case "+":
		return v.Add(rat(a), rat(b)), true
	case "-":
		return v.Sub(rat(a), rat(b)), true
	case "*":
		return v.Mul(rat(a), rat(b)), true
	}
	if b.P == 0 {
		return nil, false
	}
	return v.Quo(rat(a), rat(b)), true
}

// wanted returns what an operation has to give, where round is what becomes of its exact result.
func wanted(op string, round func(v *big.Rat) (api.Num, api.Errno)) func(a, b api.Num) (api.Num, api.Errno) {
	return func(a, b api.Num) (api.Num, api.Errno) {
		v, ok := exactly(op, a, b)
		if !ok {
			return api.Num{}, api.ErrZero
		}
		return round(v)
	}
}

// everyPair compares a function of two numbers with what it has to give, for all pairs of samples.
func everyPair(t *testing.T, what string, do, want func(a, b api.Num) (api.Num, api.Errno)) {
	t.Helper()
	all := samples()
	for _, a := range all {
		for _, b := range all {
			v, e := do(a, b)
			if w, f := want(a, b); v != w || e != f {
				t.Fatalf("%s of %v and %v is %v, %d; want %v, %d", what, a, b, v, e, w, f)
			}
		}
	}
}

// same reports an error unless a result and its error code are as they have to be.
func same[T comparable](t *testing.T, what string, got T, e api.Errno, want T, wantErr api.Errno) {
	t.Helper()
	if got != want || e != wantErr {
		t.Errorf("%s is %v, %d; want %v, %d", what, got, e, want, wantErr)
	}
}
