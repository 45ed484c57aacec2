package num_test

import (
	"fmt"
	"math"
	"math/big"
	"testing"

	"fleuron/api"
	"fleuron/num"
)

// P1.4: Near.
func TestNear(t *testing.T) {
	for _, o := range operations {
		near := func(a, b api.Num) (api.Num, api.Errno) { return num.Near(o.op, a, b) }
		everyPair(t, "Near "+o.op, near, wanted(o.op, nearNumber))
	}
}

// P1.4: Near, by hand: halves are rounded up, also below 0, and up to the limits.
func TestNearByHand(t *testing.T) {
	most, least := number(api.MaxNum, 1), number(-api.MaxNum, 1)
	half, tiny := number(1, 131072), number(1, 65536)
	for _, c := range []struct {
		op   string
		a, b api.Num
		want api.Num
		e    api.Errno
	}{
		{"+", number(1, 2), number(1, 3), number(5, 6), api.OK},
		{"-", number(1, 2), number(1, 3), number(1, 6), api.OK},
		{"*", number(2, 3), number(3, 4), number(1, 2), api.OK},
		{"/", number(2, 3), number(-4, 3), number(-1, 2), api.OK},
		{"*", most, number(2, 1), api.Num{}, api.ErrRange},
		{"*", tiny, tiny, number(0, 1), api.OK},
		{"*", tiny, number(-1, 65536), number(0, 1), api.OK},
		{"*", number(api.MaxNum, 65536), number(1, 65537), number(32767, 65536), api.OK},
		{"+", number(16384, 1), half, number(1<<30+1, 65536), api.OK},
		{"-", number(16385, 1), half, number(16385, 1), api.OK},
		{"-", half, number(16385, 1), number(1-16385*65536, 65536), api.OK},
		{"-", number(-16384, 1), half, number(-16384, 1), api.OK},
		{"/", number(-api.MaxNum, 65536), number(2, 1), number(-api.MaxNum, 131072), api.OK},
		{"/", number(-api.MaxNum, 65536), number(2, 3), number(-1610612735, 32768), api.OK},
		{"/", number(api.MaxNum, 65536), number(-2, 3), number(-1610612735, 32768), api.OK},
		{"/", number(api.MaxNum, 65536), number(2, 3), api.Num{}, api.ErrRange},
		{"/", number(api.MaxNum-2, 65536), number(2, 3), number(805306367, 16384), api.OK},
		{"+", most, number(1, api.MaxNum), most, api.OK},
		{"-", least, number(1, api.MaxNum), least, api.OK},
		{"+", most, half, api.Num{}, api.ErrRange},
		{"+", most, number(1, 131073), most, api.OK},
		{"-", least, half, least, api.OK},
		{"-", least, number(1, 131071), api.Num{}, api.ErrRange},
		{"+", most, number(65536, 65537), api.Num{}, api.ErrRange},
		{"-", least, number(1, 1), api.Num{}, api.ErrRange},
		{"-", least, number(131073, 131072), api.Num{}, api.ErrRange},
		{"+", most, most, api.Num{}, api.ErrRange},
		{"-", least, most, api.Num{}, api.ErrRange},
		{"*", most, least, api.Num{}, api.ErrRange},
		{"/", most, number(-1, api.MaxNum), api.Num{}, api.ErrRange},
		{"/", number(1, api.MaxNum), least, number(0, 1), api.OK},
		{"/", number(1, 2), number(0, 1), api.Num{}, api.ErrZero},
		{"/", number(0, 1), number(0, 1), api.Num{}, api.ErrZero},
	} {
		got, e := num.Near(c.op, c.a, c.b)
		same(t, fmt.Sprint("Near of ", c.a, c.op, c.b), got, e, c.want, c.e)
	}
}

// P1.4: an operation that is none.
func TestNearOperation(t *testing.T) {
	for _, op := range []string{"", "++", "+ ", " +", "**", "mod", "x", "\x00", "−", ",", "-+"} {
		for _, b := range []api.Num{number(0, 1), number(2, 3), number(1, 0)} {
			got, e := num.Near(op, number(1, 2), b)
			same(t, fmt.Sprintf("Near of %q", op), got, e, api.Num{}, api.ErrArg)
		}
	}
}

// P1.5: Fixed.
func TestFixed(t *testing.T) {
	for _, a := range samples() {
		got, e := num.Fixed(a)
		same(t, fmt.Sprint("Fixed of ", a), got, e, int(fixed(rat(a)).Int64()), api.OK)
	}
	for _, c := range []struct {
		a    api.Num
		want int
	}{
		{number(1, 3), 21845}, {number(-1, 3), -21845}, {number(0, 1), 0}, {number(3, 2), 98304},
		{number(1, 131072), 1}, {number(-1, 131072), 0}, {number(3, 131072), 2}, {number(-3, 131072), -1},
		{number(1, 131073), 0}, {number(-1, 131071), -1}, {number(1, api.MaxNum), 0}, {number(-1, api.MaxNum), 0},
		{number(api.MaxNum, 1), 65536 * api.MaxNum}, {number(-api.MaxNum, 1), -65536 * api.MaxNum},
	} {
		got, e := num.Fixed(c.a)
		same(t, fmt.Sprint("Fixed of ", c.a), got, e, c.want, api.OK)
	}
}

// fixedNumbers are fixed numbers about the limits of what is a number.
var fixedNumbers = []int{
	0, 1, 2, 3, 21845, 32768, 65535, 65536, 65537, 98304, api.MaxNum - 1, api.MaxNum, api.MaxNum + 1, api.MaxNum + 2, api.MaxNum + 3,
	1<<32 - 2, 1<<32 - 1, 1 << 32, 65536*api.MaxNum - 1, 65536*api.MaxNum - 32768, 65536 * api.MaxNum, 65536*api.MaxNum + 1, 65536 * (api.MaxNum + 1),
	1 << 48, 1 << 62, math.MaxInt,
}

// P1.5: FromFixed.
func TestFromFixed(t *testing.T) {
	all := append([]int{math.MinInt}, fixedNumbers...)
	for _, n := range fixedNumbers {
		all = append(all, -n)
	}
	for _, n := range all {
		want, wantErr := exactNumber(big.NewRat(int64(n), 65536))
		got, e := num.FromFixed(n)
		same(t, fmt.Sprint("FromFixed of ", n), got, e, want, wantErr)
	}
	got, e := num.FromFixed(-98304)
	same(t, "FromFixed of -98304", got, e, number(-3, 2), api.OK)
	got, e = num.FromFixed(api.MaxNum + 2)
	same(t, "FromFixed of 2^31 + 1", got, e, api.Num{}, api.ErrRange)
	got, e = num.FromFixed(math.MinInt)
	same(t, "FromFixed of the least int", got, e, api.Num{}, api.ErrRange)
}

// P1.10: Fixed takes back FromFixed.
func TestFixedBack(t *testing.T) {
	for _, n := range fixedNumbers {
		for _, m := range []int{n, -n} {
			if a, e := num.FromFixed(m); e == api.OK {
				got, e := num.Fixed(a)
				same(t, fmt.Sprint("Fixed of FromFixed of ", m), got, e, m, api.OK)
			}
		}
	}
	for n := -70000; n <= 70000; n += 7 {
		a, e := num.FromFixed(n)
		if e != api.OK {
			t.Fatalf("FromFixed of %d: %d", n, e)
		}
		got, e := num.Fixed(a)
		same(t, fmt.Sprint("Fixed of FromFixed of ", n), got, e, n, api.OK)
	}
}

// P1.10: Fixed differs by at most 1/2, and what is Near by at most 1 / 131,072.
func TestDistances(t *testing.T) {
	all := samples()
	for _, a := range all {
		n, e := num.Fixed(a)
		if e != api.OK || !within(big.NewRat(int64(n), 65536), rat(a), 131072) {
			t.Errorf("Fixed of %v is %d, %d", a, n, e)
		}
	}
	for _, o := range operations {
		for _, a := range all {
			for _, b := range all {
				v, e := num.Near(o.op, a, b)
				if w, ok := exactly(o.op, a, b); ok && e == api.OK && !within(rat(v), w, 131072) {
					t.Errorf("Near of %v %s %v is %v", a, o.op, b, v)
				}
			}
		}
	}
}

// within reports whether two values differ by at most 1 / part.
func within(v, w *big.Rat, part int64) bool {
	d := new(big.Rat).Sub(v, w)
	return d.Abs(d).Cmp(big.NewRat(1, part)) <= 0
}
