package fix_test

import (
	"math"
	"math/big"
	"math/rand/v2"
	"testing"

	"fleuron/api"
)

const most = api.MaxNum

// noFixed are integers that are no fixed numbers.
var noFixed = []int{
	most + 1, -most - 1, most + 2, 1 << 32, -1 << 32, 1<<32 + 1, 1 << 40, 1 << 47, 1 << 62, -1 << 62,
	math.MaxInt - 1, math.MaxInt, math.MinInt, math.MinInt + 1,
}

// noAngles are integers that are no angles.
var noAngles = []int{
	1<<40 + 1, -1<<40 - 1, 1 << 41, -1 << 41, 1 << 48, 1 << 62, -1 << 62, math.MaxInt - 1, math.MaxInt, math.MinInt, math.MinInt + 1,
}

// fixedNumbers returns fixed numbers: those about powers of 2 and the limits, and some without a plan.
func fixedNumbers() []int {
	l := []int{0}
	for _, n := range []int{
		1, 2, 3, 5, 7, 100, 21845, 32767, 32768, 32769, 46340, 46341, 65535, 65536, 65537, 98304, 131071, 131072, 1 << 24, 1<<28 - 1, 1 << 30,
		1518500249, 1518500250, most - 32768, most - 1, most,
	} {
		l = append(l, n, -n)
	}
	r := rand.New(rand.NewPCG(3, 4))
	for range 25 {
		l = append(l, r.IntN(2*most+1)-most, r.IntN(2<<20)-1<<20, r.IntN(2001)-1000)
	}
	return l
}

// angles returns angles: those about eighths of a circle, powers of 2 and the limits, and some without a plan.
func angles() []int {
	l := []int{1 << 40, 1<<40 - 1, -1 << 40, 1 - 1<<40}
	for n := -17; n <= 17; n++ {
		eighth := 45 * api.Degree * n
		l = append(l, eighth-2, eighth-1, eighth, eighth+1, eighth+2, 30*api.Degree*n, 7*api.Degree*n)
	}
	for k := range 40 {
		l = append(l, 1<<k, -1<<k)
	}
	r := rand.New(rand.NewPCG(5, 6))
	for range 300 {
		l = append(l, r.IntN(2<<40+1)-1<<40, r.IntN(720*api.Degree)-360*api.Degree)
	}
	return l
}

// whole returns an integer without bounds.
func whole(n int) *big.Int { return big.NewInt(int64(n)) }

// floor returns the greatest integer that is at most a / b, for b above 0.
func floor(a, b *big.Int) *big.Int {
	// Div of big rounds down where the divisor is above 0.
	return new(big.Int).Div(a, b)
}

// times returns the product of integers.
func times(all ...int) *big.Int {
	product := whole(1)
	for _, n := range all {
		product.Mul(product, whole(n))
	}
	return product
}

// nearest returns the exact value v rounded, as a fixed number.
func nearest(v *big.Rat) (int, api.Errno) {
	w := new(big.Rat).Add(v, big.NewRat(1, 2))
	n := floor(w.Num(), w.Denom())
	if n.CmpAbs(whole(most)) > 0 {
		return 0, api.ErrRange
	}
	return int(n.Int64()), api.OK
}

// ratio returns the exact value a / b.
func ratio(a, b *big.Int) *big.Rat { return new(big.Rat).SetFrac(a, b) }

// same reports an error unless a result and its error code are as they have to be.
func same[T comparable](t *testing.T, what string, got T, e api.Errno, want T, wantErr api.Errno) {
	t.Helper()
	if got != want || e != wantErr {
		t.Errorf("%s is %v, %d; want %v, %d", what, got, e, want, wantErr)
	}
}
