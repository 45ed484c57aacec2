package num_test

import (
	"testing"

	"fleuron/api"
	"fleuron/num"
)

// chain is a calculation of several steps; it is bad from the first step on that has an error.
type chain struct{ bad bool }

// do returns the result of a step.
func (c *chain) do(f func(a, b api.Num) (api.Num, api.Errno), a, b api.Num) api.Num {
	if c.bad {
		return api.Num{}
	}
	v, e := f(a, b)
	c.bad = e != api.OK
	return v
}

// P1.7: the order of two numbers, and what takes back what.
func TestFieldOfTwo(t *testing.T) {
	all := samples()
	for _, a := range all {
		for _, b := range all {
			sum, sumErr := num.Add(a, b)
			if v, e := num.Add(b, a); v != sum || e != sumErr {
				t.Errorf("%v + %v is not %v + %v", a, b, b, a)
			}
			product, productErr := num.Mul(a, b)
			if v, e := num.Mul(b, a); v != product || e != productErr {
				t.Errorf("%v * %v is not %v * %v", a, b, b, a)
			}
			if sumErr == api.OK {
				if v, e := num.Sub(sum, b); v != a || e != api.OK {
					t.Errorf("%v + %v - %v is %v, %d", a, b, b, v, e)
				}
			}
			if productErr == api.OK && b.P != 0 {
				if v, e := num.Div(product, b); v != a || e != api.OK {
					t.Errorf("%v * %v / %v is %v, %d", a, b, b, v, e)
				}
			}
		}
	}
}

// P1.7: the order of three numbers, and products of sums.
func TestFieldOfThree(t *testing.T) {
	all := few(5)
	held := 0
	for _, a := range all {
		for _, b := range all {
			for _, c := range all {
				var sums, products, mixed chain
				if v, w := sums.do(num.Add, sums.do(num.Add, a, b), c), sums.do(num.Add, a, sums.do(num.Add, b, c)); !sums.bad && v != w {
					t.Errorf("sums of %v, %v, %v: %v, %v", a, b, c, v, w)
				}
				if v, w := products.do(num.Mul, products.do(num.Mul, a, b), c), products.do(num.Mul, a, products.do(num.Mul, b, c)); !products.bad && v != w {
					t.Errorf("products of %v, %v, %v: %v, %v", a, b, c, v, w)
				}
				v := mixed.do(num.Mul, a, mixed.do(num.Add, b, c))
				w := mixed.do(num.Add, mixed.do(num.Mul, a, b), mixed.do(num.Mul, a, c))
				if mixed.bad {
					continue
				}
				held++
				if v != w {
					t.Errorf("%v times the sum of %v and %v: %v, %v", a, b, c, v, w)
				}
			}
		}
	}
	if held < 1000 {
		t.Errorf("only %d products of sums were numbers", held)
	}
}

// P1.8: Cmp is an order.
func TestOrder(t *testing.T) {
	all := few(3)
	compare := func(a, b api.Num) int {
		n, e := num.Cmp(a, b)
		if e != api.OK || n < -1 || n > 1 {
			t.Fatalf("Cmp of %v, %v is %d, %d", a, b, n, e)
		}
		return n
	}
	for _, a := range all {
		for _, b := range all {
			n := compare(a, b)
			if (n == 0) != (a == b) || n != -compare(b, a) {
				t.Errorf("%v and %v have no order", a, b)
			}
			for _, c := range all {
				if n < 0 && compare(b, c) < 0 && compare(a, c) >= 0 {
					t.Errorf("%v, %v, %v have no order", a, b, c)
				}
			}
		}
	}
}

// P1.8: Add of the same number keeps the order.
func TestOrderOfSums(t *testing.T) {
	all := few(4)
	held := 0
	for _, a := range all {
		for _, b := range all {
			for _, c := range all {
				v, e := num.Add(a, c)
				w, f := num.Add(b, c)
				if e != api.OK || f != api.OK {
					continue
				}
				held++
				before, _ := num.Cmp(a, b)
				if after, e := num.Cmp(v, w); after != before || e != api.OK {
					t.Errorf("%v and %v with %v: %d, then %d, %d", a, b, c, before, after, e)
				}
			}
		}
	}
	if held < 1000 {
		t.Errorf("only %d sums were numbers", held)
	}
}

// P1.9: Floor(a) is at most a, and a is less than Floor(a) + 1.
func TestFloorLaw(t *testing.T) {
	for _, a := range samples() {
		n, e := num.Floor(a)
		if e != api.OK || int64(n)*a.Q > a.P || (int64(n)+1)*a.Q <= a.P {
			t.Errorf("Floor of %v is %d, %d", a, n, e)
		}
	}
}

// P1.9: Mod(a, b) is from 0 up to b, but not b, on the side of b; and a less it is a whole number of times b.
func TestModLaw(t *testing.T) {
	all := samples()
	for _, a := range all {
		for _, b := range all {
			v, e := num.Mod(a, b)
			if e != api.OK {
				continue
			}
			rest := rat(v)
			if rest.Sign() != 0 && rest.Sign() != rat(b).Sign() || rest.Abs(rest).Cmp(rat(b).Abs(rat(b))) >= 0 {
				t.Errorf("%v mod %v is %v", a, b, v)
			}
			times, ok := exactly("/", a, b)
			part, _ := exactly("/", v, b)
			if !ok || !times.Sub(times, part).IsInt() {
				t.Errorf("%v less %v is no multiple of %v", a, v, b)
			}
		}
	}
}
