package num_test

import (
	"fmt"
	"math"
	"math/big"
	"testing"

	"fleuron/api"
	"fleuron/num"
)

// P1.1: Valid.
func TestValid(t *testing.T) {
	for _, a := range samples() {
		if !num.Valid(a) {
			t.Errorf("%v is not valid", a)
		}
	}
	for _, a := range invalid {
		if num.Valid(a) {
			t.Errorf("%v is valid", a)
		}
	}
}

// P1.1: Valid, of all small parts, where common divisors are tried one by one.
func TestValidSmall(t *testing.T) {
	for p := int64(-40); p <= 40; p++ {
		for q := int64(-40); q <= 40; q++ {
			want := q >= 1
			for d := int64(2); d <= 40; d++ {
				if p%d == 0 && q%d == 0 {
					want = false
				}
			}
			if num.Valid(number(p, q)) != want {
				t.Errorf("Valid of %d / %d is not %v", p, q, want)
			}
		}
	}
}

// P1.1: Make.
func TestMake(t *testing.T) {
	parts := []int64{0, 1, 2, 3, 4, 6, 30, 1 << 16, 1 << 30, api.MaxNum - 1, api.MaxNum, api.MaxNum + 1, 2 * api.MaxNum, 3 * api.MaxNum,
		1 << 32, 1<<32 + 1, 1 << 62, 1<<62 + 1<<31, api.MaxNum * api.MaxNum, math.MaxInt64 - 1, math.MaxInt64}
	for _, p := range parts {
		parts = append(parts, -p)
	}
	parts = append(parts, math.MinInt64)
	for _, p := range parts {
		for _, q := range parts {
			want, wantErr := api.Num{}, api.ErrZero
			if q != 0 {
				want, wantErr = exactNumber(big.NewRat(p, q))
			}
			got, e := num.Make(p, q)
			same(t, fmt.Sprintf("Make(%d, %d)", p, q), got, e, want, wantErr)
		}
	}
}

// P1.1: Make, by hand.
func TestMakeByHand(t *testing.T) {
	for _, c := range []struct {
		p, q int64
		want api.Num
		e    api.Errno
	}{
		{6, -4, number(-3, 2), api.OK},
		{-6, -4, number(3, 2), api.OK},
		{0, -7, number(0, 1), api.OK},
		{0, 0, api.Num{}, api.ErrZero},
		{5, 0, api.Num{}, api.ErrZero},
		{math.MinInt64, 0, api.Num{}, api.ErrZero},
		{math.MinInt64, math.MinInt64, number(1, 1), api.OK},
		{math.MinInt64, 1 << 62, number(-2, 1), api.OK},
		{1 << 62, math.MinInt64, number(-1, 2), api.OK},
		{math.MinInt64, -1, api.Num{}, api.ErrRange},
		{1, math.MinInt64, api.Num{}, api.ErrRange},
		{math.MinInt64, math.MaxInt64, api.Num{}, api.ErrRange},
		{api.MaxNum, 1, number(api.MaxNum, 1), api.OK},
		{-api.MaxNum, 1, number(-api.MaxNum, 1), api.OK},
		{api.MaxNum + 1, 1, api.Num{}, api.ErrRange},
		{-api.MaxNum - 1, 1, api.Num{}, api.ErrRange},
		{1, api.MaxNum, number(1, api.MaxNum), api.OK},
		{1, api.MaxNum + 1, api.Num{}, api.ErrRange},
	} {
		got, e := num.Make(c.p, c.q)
		same(t, fmt.Sprintf("Make(%d, %d)", c.p, c.q), got, e, c.want, c.e)
	}
}

// operations are the ones that have a sign.
var operations = []struct {
	op string
	do func(a, b api.Num) (api.Num, api.Errno)
}{
	{"+", num.Add}, {"-", num.Sub}, {"*", num.Mul}, {"/", num.Div},
}

// P1.2: Add, Sub, Mul, Div.
func TestOperations(t *testing.T) {
	for _, o := range operations {
		everyPair(t, o.op, o.do, wanted(o.op, exactNumber))
	}
}

// P1.2: Add, Sub, Mul, Div, by hand.
func TestOperationsByHand(t *testing.T) {
	most := number(api.MaxNum, 1)
	for _, c := range []struct {
		op   string
		a, b api.Num
		want api.Num
		e    api.Errno
	}{
		{"+", number(1, 2), number(1, 3), number(5, 6), api.OK},
		{"+", number(1, 2), number(-1, 2), number(0, 1), api.OK},
		{"+", most, number(1, 1), api.Num{}, api.ErrRange},
		{"+", most, most, api.Num{}, api.ErrRange},
		{"+", number(1, 65536), number(1, 65537), api.Num{}, api.ErrRange},
		{"-", number(1, 2), number(1, 3), number(1, 6), api.OK},
		{"-", number(-api.MaxNum, 1), number(1, 1), api.Num{}, api.ErrRange},
		{"-", most, most, number(0, 1), api.OK},
		{"*", number(2, 3), number(-3, 4), number(-1, 2), api.OK},
		{"*", most, number(2, 1), api.Num{}, api.ErrRange},
		{"*", most, number(1, api.MaxNum), number(1, 1), api.OK},
		{"*", number(1, 65536), number(1, 65536), api.Num{}, api.ErrRange},
		{"/", number(1, 2), number(-3, 4), number(-2, 3), api.OK},
		{"/", number(0, 1), number(-5, 3), number(0, 1), api.OK},
		{"/", number(1, 2), number(0, 1), api.Num{}, api.ErrZero},
		{"/", number(0, 1), number(0, 1), api.Num{}, api.ErrZero},
		{"/", most, number(1, 2), api.Num{}, api.ErrRange},
	} {
		for _, o := range operations {
			if o.op == c.op {
				got, e := o.do(c.a, c.b)
				same(t, fmt.Sprint(c.a, c.op, c.b), got, e, c.want, c.e)
			}
		}
	}
}

// P1.2, P1.3, P1.4: numbers that are not valid, ahead of every other error.
func TestInvalidPairs(t *testing.T) {
	valid := []api.Num{number(0, 1), number(1, 1), number(-api.MaxNum, 2), number(1, api.MaxNum)}
	for _, bad := range invalid {
		pairs := [][2]api.Num{{bad, bad}}
		for _, a := range valid {
			pairs = append(pairs, [2]api.Num{a, bad}, [2]api.Num{bad, a})
		}
		for _, p := range pairs {
			what := fmt.Sprint(p)
			for _, o := range operations {
				got, e := o.do(p[0], p[1])
				same(t, o.op+what, got, e, api.Num{}, api.ErrArg)
				got, e = num.Near(o.op, p[0], p[1])
				same(t, "Near "+o.op+what, got, e, api.Num{}, api.ErrArg)
			}
			got, e := num.Mod(p[0], p[1])
			same(t, "Mod"+what, got, e, api.Num{}, api.ErrArg)
			n, e := num.Cmp(p[0], p[1])
			same(t, "Cmp"+what, n, e, 0, api.ErrArg)
		}
	}
}

// P1.3, P1.5, P1.6: a number that is not valid.
func TestInvalidOnes(t *testing.T) {
	for _, bad := range invalid {
		what := fmt.Sprint(bad)
		for _, n := range []int{0, 1, -1, 2, 64, -64, 65, math.MinInt} {
			got, e := num.Power(bad, n)
			same(t, fmt.Sprint("Power", what, n), got, e, api.Num{}, api.ErrArg)
		}
		n, e := num.Floor(bad)
		same(t, "Floor"+what, n, e, 0, api.ErrArg)
		n, e = num.Fixed(bad)
		same(t, "Fixed"+what, n, e, 0, api.ErrArg)
		s, e := num.Text(bad)
		same(t, "Text"+what, s, e, "", api.ErrArg)
	}
}

// P1.3: Mod.
func TestMod(t *testing.T) {
	everyPair(t, "Mod", num.Mod, func(a, b api.Num) (api.Num, api.Errno) {
		v, ok := exactly("/", a, b)
		if !ok {
			return api.Num{}, api.ErrZero
		}
		v = new(big.Rat).Mul(rat(b), new(big.Rat).SetInt(floor(v)))
		return exactNumber(v.Sub(rat(a), v))
	})
}

// P1.3: Mod, by hand.
func TestModByHand(t *testing.T) {
	for _, c := range []struct {
		a, b, want api.Num
		e          api.Errno
	}{
		{number(-7, 2), number(2, 1), number(1, 2), api.OK},
		{number(7, 2), number(2, 1), number(3, 2), api.OK},
		{number(7, 2), number(-2, 1), number(-1, 2), api.OK},
		{number(-7, 2), number(-2, 1), number(-3, 2), api.OK},
		{number(6, 1), number(-2, 1), number(0, 1), api.OK},
		{number(0, 1), number(-2, 1), number(0, 1), api.OK},
		{number(1, 1), number(0, 1), api.Num{}, api.ErrZero},
		{number(0, 1), number(0, 1), api.Num{}, api.ErrZero},
		{number(api.MaxNum, 1), number(1, api.MaxNum), number(0, 1), api.OK},
		{number(1, api.MaxNum), number(1, api.MaxNum-1), number(1, api.MaxNum), api.OK},
		{number(1, api.MaxNum-1), number(1, api.MaxNum), api.Num{}, api.ErrRange},
		{number(-1, api.MaxNum), number(api.MaxNum, 1), api.Num{}, api.ErrRange},
	} {
		got, e := num.Mod(c.a, c.b)
		same(t, fmt.Sprint(c.a, " mod ", c.b), got, e, c.want, c.e)
	}
}

// P1.3: Power.
func TestPower(t *testing.T) {
	for _, a := range samples() {
		for n := -70; n <= 70; n++ {
			want, wantErr := wantPower(a, n)
			got, e := num.Power(a, n)
			same(t, fmt.Sprint(a, " to the power of ", n), got, e, want, wantErr)
		}
	}
}

// wantPower returns a power, of parts that big multiplies.
func wantPower(a api.Num, n int) (api.Num, api.Errno) {
	if n < -64 || n > 64 {
		return api.Num{}, api.ErrArg
	}
	if a.P == 0 && n < 0 {
		return api.Num{}, api.ErrZero
	}
	top, bottom := big.NewInt(a.P), big.NewInt(a.Q)
	if n < 0 {
		top, bottom, n = bottom, top, -n
	}
	k := big.NewInt(int64(n))
	return exactNumber(new(big.Rat).SetFrac(top.Exp(top, k, nil), bottom.Exp(bottom, k, nil)))
}

// P1.3: Power, by hand.
func TestPowerByHand(t *testing.T) {
	for _, c := range []struct {
		a    api.Num
		n    int
		want api.Num
		e    api.Errno
	}{
		{number(0, 1), 0, number(1, 1), api.OK},
		{number(0, 1), 64, number(0, 1), api.OK},
		{number(0, 1), -1, api.Num{}, api.ErrZero},
		{number(0, 1), -64, api.Num{}, api.ErrZero},
		{number(0, 1), -65, api.Num{}, api.ErrArg},
		{number(-2, 3), 3, number(-8, 27), api.OK},
		{number(-2, 3), -3, number(-27, 8), api.OK},
		{number(-2, 3), -2, number(9, 4), api.OK},
		{number(2, 1), 30, number(1<<30, 1), api.OK},
		{number(2, 1), 31, api.Num{}, api.ErrRange},
		{number(1, 2), 31, api.Num{}, api.ErrRange},
		{number(2, 1), -31, api.Num{}, api.ErrRange},
		{number(2, 1), 64, api.Num{}, api.ErrRange},
		{number(-1, 1), 63, number(-1, 1), api.OK},
		{number(-1, 1), -64, number(1, 1), api.OK},
		{number(-1, 1), 65, api.Num{}, api.ErrArg},
		{number(1, 1), math.MaxInt, api.Num{}, api.ErrArg},
		{number(1, 1), math.MinInt, api.Num{}, api.ErrArg},
		{number(api.MaxNum, 1), 1, number(api.MaxNum, 1), api.OK},
		{number(-api.MaxNum, 1), -1, number(-1, api.MaxNum), api.OK},
	} {
		got, e := num.Power(c.a, c.n)
		same(t, fmt.Sprint(c.a, " to the power of ", c.n), got, e, c.want, c.e)
	}
}

// P1.3: Floor.
func TestFloor(t *testing.T) {
	for _, a := range samples() {
		got, e := num.Floor(a)
		same(t, fmt.Sprint("Floor of ", a), got, e, int(floor(rat(a)).Int64()), api.OK)
	}
	for _, c := range []struct {
		a    api.Num
		want int
	}{
		{number(-7, 2), -4}, {number(7, 2), 3}, {number(0, 1), 0}, {number(-4, 1), -4}, {number(-1, api.MaxNum), -1},
		{number(1, api.MaxNum), 0}, {number(-api.MaxNum, 1), -api.MaxNum}, {number(api.MaxNum, 1), api.MaxNum},
		{number(-api.MaxNum, 2), -1 << 30}, {number(api.MaxNum, 2), 1<<30 - 1},
	} {
		got, e := num.Floor(c.a)
		same(t, fmt.Sprint("Floor of ", c.a), got, e, c.want, api.OK)
	}
}

// P1.3: Cmp.
func TestCmp(t *testing.T) {
	all := samples()
	for _, a := range all {
		for _, b := range all {
			got, e := num.Cmp(a, b)
			same(t, fmt.Sprint("Cmp of ", a, b), got, e, rat(a).Cmp(rat(b)), api.OK)
		}
	}
	most, next := number(api.MaxNum, api.MaxNum-1), number(api.MaxNum-1, api.MaxNum-2)
	for _, c := range []struct {
		a, b api.Num
		want int
	}{
		{number(1, 2), number(1, 3), 1}, {number(-1, 2), number(-1, 3), -1}, {number(2, 3), number(2, 3), 0},
		{number(0, 1), number(-1, api.MaxNum), 1}, {most, next, -1}, {next, most, 1},
		{number(api.MaxNum, 1), number(-api.MaxNum, 1), 1},
	} {
		got, e := num.Cmp(c.a, c.b)
		same(t, fmt.Sprint("Cmp of ", c.a, c.b), got, e, c.want, api.OK)
	}
}
