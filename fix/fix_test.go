package fix_test

import (
	"fmt"
	"math/big"
	"testing"

	"fleuron/api"
	"fleuron/fix"
)

// P2.1: Mul.
func TestMul(t *testing.T) {
	all := fixedNumbers()
	for _, a := range all {
		for _, b := range all {
			want, wantErr := nearest(ratio(times(a, b), whole(api.Unit)))
			got, e := fix.Mul(a, b)
			same(t, fmt.Sprintf("Mul(%d, %d)", a, b), got, e, want, wantErr)
		}
	}
	for _, c := range []struct {
		a, b, want int
		e          api.Errno
	}{
		{98304, 98304, 147456, api.OK}, {0, most, 0, api.OK}, {most, 65536, most, api.OK}, {-most, 65536, -most, api.OK}, {most, -65536, -most, api.OK},
		{1, 32768, 1, api.OK}, {1, 32767, 0, api.OK}, {-1, 32768, 0, api.OK}, {-1, 32769, -1, api.OK}, {3, -32768, -1, api.OK}, {3, 32768, 2, api.OK},
		{most, 65537, 0, api.ErrRange}, {most, most, 0, api.ErrRange}, {-most, most, 0, api.ErrRange}, {1 << 30, 131072, 0, api.ErrRange},
		{-1 << 30, 131072, 0, api.ErrRange}, {1<<30 - 1, 131072, most - 1, api.OK}, {-most, -most, 0, api.ErrRange},
	} {
		got, e := fix.Mul(c.a, c.b)
		same(t, fmt.Sprintf("Mul(%d, %d)", c.a, c.b), got, e, c.want, c.e)
	}
}

// P2.1: Div.
func TestDiv(t *testing.T) {
	all := fixedNumbers()
	for _, a := range all {
		for _, b := range all {
			want, wantErr := 0, api.ErrZero
			if b != 0 {
				want, wantErr = nearest(ratio(times(a, api.Unit), whole(b)))
			}
			got, e := fix.Div(a, b)
			same(t, fmt.Sprintf("Div(%d, %d)", a, b), got, e, want, wantErr)
		}
	}
	for _, c := range []struct {
		a, b, want int
		e          api.Errno
	}{
		{65536, 196608, 21845, api.OK}, {131072, 196608, 43691, api.OK}, {-65536, 196608, -21845, api.OK}, {65536, -196608, -21845, api.OK},
		{-131072, -196608, 43691, api.OK}, {1, 131072, 1, api.OK}, {-1, 131072, 0, api.OK}, {1, -131072, 0, api.OK}, {-1, -131072, 1, api.OK},
		{-3, 131072, -1, api.OK}, {1, 131073, 0, api.OK}, {0, -1, 0, api.OK}, {32767, 1, 32767 * 65536, api.OK}, {32768, 1, 0, api.ErrRange},
		{32768, -1, 0, api.ErrRange}, {most, 65536, most, api.OK}, {most, 65535, 0, api.ErrRange}, {most, 1, 0, api.ErrRange}, {most, most, 65536, api.OK},
		{-most, most, -65536, api.OK}, {1, most, 0, api.OK}, {-1, most, 0, api.OK}, {0, 0, 0, api.ErrZero}, {-7, 0, 0, api.ErrZero}, {most, 0, 0, api.ErrZero},
	} {
		got, e := fix.Div(c.a, c.b)
		same(t, fmt.Sprintf("Div(%d, %d)", c.a, c.b), got, e, c.want, c.e)
	}
}

// P2.2: Sqrt.
func TestSqrt(t *testing.T) {
	all := fixedNumbers()
	for n := -300; n <= 70000; n++ {
		all = append(all, n)
	}
	for _, a := range all {
		want, wantErr := 0, api.ErrRange
		if a >= 0 {
			want, wantErr = nearestRoot(times(a, api.Unit))
		}
		got, e := fix.Sqrt(a)
		same(t, fmt.Sprintf("Sqrt(%d)", a), got, e, want, wantErr)
	}
	for _, c := range []struct {
		a, want int
		e       api.Errno
	}{
		{131072, 92682, api.OK}, {0, 0, api.OK}, {1, 256, api.OK}, {2, 362, api.OK}, {3, 443, api.OK}, {65536, 65536, api.OK}, {147456, 98304, api.OK},
		{4 * 65536, 2 * 65536, api.OK}, {most, 11863283, api.OK}, {-1, 0, api.ErrRange}, {-65536, 0, api.ErrRange}, {-most, 0, api.ErrRange},
	} {
		got, e := fix.Sqrt(c.a)
		same(t, fmt.Sprintf("Sqrt(%d)", c.a), got, e, c.want, c.e)
	}
}

// nearestRoot returns the real square root of n, rounded, as a fixed number.
func nearestRoot(n *big.Int) (int, api.Errno) {
	// Twice the root is that of 4 n; of both, the floors tell on which side of a half the root is.
	twice := new(big.Int).Sqrt(new(big.Int).Mul(n, whole(4)))
	return nearest(ratio(floor(twice.Add(twice, whole(1)), whole(2)), whole(1)))
}

// P2.2: Hypot.
func TestHypot(t *testing.T) {
	all := fixedNumbers()
	for n := -40; n <= 40; n++ {
		all = append(all, n)
	}
	for _, a := range all {
		for _, b := range all {
			sum := times(a, a)
			want, wantErr := nearestRoot(sum.Add(sum, times(b, b)))
			got, e := fix.Hypot(a, b)
			same(t, fmt.Sprintf("Hypot(%d, %d)", a, b), got, e, want, wantErr)
		}
	}
	for _, c := range []struct {
		a, b, want int
		e          api.Errno
	}{
		{3, 4, 5, api.OK}, {0, 0, 0, api.OK}, {-5, 12, 13, api.OK}, {1, 1, 1, api.OK}, {2, 2, 3, api.OK}, {1, 2, 2, api.OK}, {0, -most, most, api.OK},
		{most, 1, most, api.OK}, {most, 46340, most, api.OK}, {most, 46341, 0, api.ErrRange}, {most, most, 0, api.ErrRange}, {-most, -most, 0, api.ErrRange},
		{1518500249, 1518500249, most, api.OK}, {1518500250, 1518500250, 0, api.ErrRange},
	} {
		got, e := fix.Hypot(c.a, c.b)
		same(t, fmt.Sprintf("Hypot(%d, %d)", c.a, c.b), got, e, c.want, c.e)
	}
}

// P2.1, P2.2: arguments that are no fixed numbers come ahead of all other errors.
func TestNoFixed(t *testing.T) {
	for _, n := range noFixed {
		got, e := fix.Sqrt(n)
		same(t, fmt.Sprintf("Sqrt(%d)", n), got, e, 0, api.ErrArg)
		for _, m := range append([]int{0, 1, -1, most}, noFixed...) {
			for name, do := range map[string]func(a, b int) (int, api.Errno){"Mul": fix.Mul, "Div": fix.Div, "Hypot": fix.Hypot} {
				got, e = do(n, m)
				same(t, fmt.Sprintf("%s(%d, %d)", name, n, m), got, e, 0, api.ErrArg)
				got, e = do(m, n)
				same(t, fmt.Sprintf("%s(%d, %d)", name, m, n), got, e, 0, api.ErrArg)
			}
		}
	}
}

// P2.8: Hypot is at least the greater one of both, and at most their sum.
func TestHypotBounds(t *testing.T) {
	all := fixedNumbers()
	held := 0
	for _, a := range all {
		for _, b := range all {
			n, e := fix.Hypot(a, b)
			if e != api.OK {
				continue
			}
			held++
			greater, lesser := max(a, -a, b, -b), min(max(a, -a), max(b, -b))
			if n < greater || n > greater+lesser {
				t.Errorf("Hypot(%d, %d) is %d", a, b, n)
			}
		}
	}
	if held < 5000 {
		t.Errorf("only %d lengths were fixed numbers", held)
	}
}

// P2.8: Hypot of 3 and 4 times a number is 5 times its absolute value.
func TestHypotOfTriangles(t *testing.T) {
	longest := most / 5
	check := func(s int) {
		got, e := fix.Hypot(3*s, 4*s)
		same(t, fmt.Sprintf("Hypot of 3 and 4 times %d", s), got, e, 5*max(s, -s), api.OK)
	}
	for s := -2000; s <= 2000; s++ {
		check(s)
	}
	for _, s := range append(fixedNumbers(), longest, -longest, longest-1) {
		check(s % (longest + 1))
	}
	got, e := fix.Hypot(3*(longest+1), -4*(longest+1))
	same(t, "Hypot of a triangle that is too large", got, e, 0, api.ErrRange)
}

// P2.8: Sqrt(a) squared differs from Unit a by at most Sqrt(a).
func TestSqrtSquared(t *testing.T) {
	check := func(a int) {
		n, e := fix.Sqrt(a)
		if e != api.OK || max(n*n-api.Unit*a, api.Unit*a-n*n) > n {
			t.Errorf("Sqrt(%d) is %d, %d", a, n, e)
		}
	}
	for a := 0; a <= most; a += 1 + a/3000 {
		check(a)
	}
	for _, a := range fixedNumbers() {
		check(max(a, -a))
	}
}
