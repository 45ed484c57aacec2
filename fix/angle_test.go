package fix_test

import (
	"fmt"
	"math"
	"math/big"
	"testing"

	"fleuron/api"
	"fleuron/fix"
)

// one is 1 as a fraction, and d a degree.
const (
	one = 1 << 28
	d   = api.Degree
)

// vector is a result of two numbers.
type vector struct{ x, y int }

// sine returns the sine and the cosine of an angle, step by step as the chapter defines them, without bounds.
func sine(a int) (sin, cos int) {
	full, right := whole(360*d), whole(90*d)
	r := new(big.Int).Mod(whole(a), full)
	q := floor(r, right).Int64()
	r.Sub(r, new(big.Int).Mul(right, big.NewInt(q)))
	exchanged := r.Cmp(whole(45*d)) > 0
	if exchanged {
		r.Sub(right, r)
	}
	t := new(big.Int).Mul(whole(76760392275), r)
	t = floor(t.Add(t, whole(1<<31)), whole(1<<32))
	s := sumOfTerms(t, t, func(k int) int { return 2 * k * (2*k + 1) })
	c := sumOfTerms(whole(1<<30), t, func(k int) int { return (2*k - 1) * 2 * k })
	if exchanged {
		s, c = c, s
	}
	return []int{s, c, -s, -c}[q], []int{c, -s, -c, s}[q]
}

// sumOfTerms returns a sum of terms as a fraction; what leads from the k-th term to the next one is divided by part(k).
func sumOfTerms(first, t *big.Int, part func(k int) int) int {
	sum, u := new(big.Int), first
	for k := 1; u.Sign() != 0; k++ {
		if k%2 == 1 {
			sum.Add(sum, u)
		} else {
			sum.Sub(sum, u)
		}
		for range 2 {
			u = floor(new(big.Int).Mul(u, t), whole(1<<30))
		}
		u = floor(u, whole(part(k)))
	}
	return int(floor(sum.Add(sum, whole(2)), whole(4)).Int64())
}

// P2.3: Sine.
func TestSine(t *testing.T) {
	for _, a := range angles() {
		sin, cos, e := fix.Sine(a)
		wantSin, wantCos := sine(a)
		same(t, fmt.Sprintf("Sine(%d)", a), vector{sin, cos}, e, vector{wantSin, wantCos}, api.OK)
		turn := float64(a%(360*d)) * math.Pi / (180 * d)
		if math.Abs(float64(sin)-one*math.Sin(turn)) > 2 || math.Abs(float64(cos)-one*math.Cos(turn)) > 2 {
			t.Errorf("Sine(%d) is %d, %d, which is far from the sine and the cosine", a, sin, cos)
		}
	}
}

// P2.3: Sine and Dir, by hand.
func TestSineByHand(t *testing.T) {
	for _, c := range []struct{ a, sin, cos, x, y int }{
		{0, 0, one, 65536, 0}, {90 * d, one, 0, 0, 65536}, {180 * d, 0, -one, -65536, 0}, {270 * d, -one, 0, 0, -65536}, {-90 * d, -one, 0, 0, -65536},
		{360 * d, 0, one, 65536, 0}, {-360 * d, 0, one, 65536, 0}, {-270 * d, one, 0, 0, 65536},
		{1, 5, one, 65536, 0}, {-1, -5, one, 65536, 0}, {d, 4684845, 268394572, 65526, 1144},
		{30 * d, 134217728, 232471925, 56756, 32768}, {-30 * d, -134217728, 232471925, 56756, -32768},
		{45 * d, 189812532, 189812531, 46341, 46341}, {-45 * d, -189812531, 189812532, 46341, -46341},
		{45*d + 1, 189812535, 189812528, 46341, 46341}, {45*d - 1, 189812528, 189812535, 46341, 46341},
		{60 * d, 232471925, 134217728, 32768, 56756}, {100 * d, 264357318, -46613328, -11380, 64540}, {135 * d, 189812531, -189812532, -46341, 46341},
		{200 * d, -91810333, -252246817, -61584, -22415}, {300 * d, -232471925, 134217728, 32768, -56756},
		{1 << 40, -260461776, -64940414, -15855, -63589}, {-1 << 40, 260461776, -64940414, -15855, 63589}, {1<<40 - 1, -260461775, -64940419, -15855, -63589},
		{123456789012, 81027754, 255914238, 62479, 19782}, {-987654321098, -170530687, -207308656, -50612, -41633},
	} {
		sin, cos, e := fix.Sine(c.a)
		same(t, fmt.Sprintf("Sine(%d)", c.a), vector{sin, cos}, e, vector{c.sin, c.cos}, api.OK)
		x, y, e := fix.Dir(c.a)
		same(t, fmt.Sprintf("Dir(%d)", c.a), vector{x, y}, e, vector{c.x, c.y}, api.OK)
	}
}

// P2.3: Dir.
func TestDir(t *testing.T) {
	for _, a := range angles() {
		sin, cos := sine(a)
		wantX, _ := nearest(ratio(times(api.Unit, cos), whole(one)))
		wantY, _ := nearest(ratio(times(api.Unit, sin), whole(one)))
		x, y, e := fix.Dir(a)
		same(t, fmt.Sprintf("Dir(%d)", a), vector{x, y}, e, vector{wantX, wantY}, api.OK)
	}
}

// turned returns a vector turned by an angle.
func turned(x, y, a int) (vector, api.Errno) {
	sin, cos := sine(a)
	across, up := times(cos, x), times(sin, x)
	p, e := nearest(ratio(across.Sub(across, times(sin, y)), whole(one)))
	q, f := nearest(ratio(up.Add(up, times(cos, y)), whole(one)))
	if e != api.OK || f != api.OK {
		return vector{}, api.ErrRange
	}
	return vector{p, q}, api.OK
}

// P2.3: Turn.
func TestTurn(t *testing.T) {
	numbers, turns := fixedNumbers(), angles()
	for i, a := range turns {
		for j := range 200 {
			x, y := numbers[(7*i+j)%len(numbers)], numbers[(3*i+11*j)%len(numbers)]
			want, wantErr := turned(x, y, a)
			p, q, e := fix.Turn(x, y, a)
			same(t, fmt.Sprintf("Turn(%d, %d, %d)", x, y, a), vector{p, q}, e, want, wantErr)
		}
	}
	for _, c := range []struct {
		x, y, a int
		want    vector
		e       api.Errno
	}{
		{10, 3, 90 * d, vector{-3, 10}, api.OK}, {0, 0, 12345, vector{}, api.OK}, {65536, 0, 30 * d, vector{56756, 32768}, api.OK},
		{65536, 0, -30 * d, vector{56756, -32768}, api.OK}, {100, 200, 45 * d, vector{-71, 212}, api.OK}, {most, 0, 45 * d, vector{1518500247, 1518500255}, api.OK},
		{-12345, 67890, 123456789, vector{-54343, -42524}, api.OK}, {1, 0, 60 * d, vector{1, 1}, api.OK}, {-1, 0, 60 * d, vector{0, -1}, api.OK},
		{1, 0, 120 * d, vector{0, 1}, api.OK}, {most, most, 0, vector{most, most}, api.OK},
		{most, most, 1, vector{}, api.ErrRange}, {most, most, -1, vector{}, api.ErrRange}, {most, most, 45 * d, vector{}, api.ErrRange},
		{most, -most, 45 * d, vector{}, api.ErrRange}, {-most, -most, 1 << 40, vector{}, api.ErrRange},
	} {
		p, q, e := fix.Turn(c.x, c.y, c.a)
		same(t, fmt.Sprintf("Turn(%d, %d, %d)", c.x, c.y, c.a), vector{p, q}, e, c.want, c.e)
	}
}

// argument returns the argument of a vector, step by step as the chapter defines it.
func argument(x, y int) int {
	length := func(n int) int { return max(n, -n) }
	X, Y := max(length(x), length(y)), min(length(x), length(y))
	a := 0
	for k := 25; k >= 0; k-- {
		next := a + 1<<k
		sin, cos := sine(next)
		if next <= 45*d && times(sin, X).Cmp(times(cos, Y)) <= 0 {
			a = next
		}
	}
	if X == Y {
		a = 45 * d
	}
	if length(y) > length(x) {
		a = 90*d - a
	}
	if x < 0 {
		a = 180*d - a
	}
	if y < 0 {
		a = -a
	}
	return a
}

// P2.4: Arg.
func TestArg(t *testing.T) {
	all := fixedNumbers()
	for i, x := range all {
		for j := range 60 {
			y := all[(5*i+j)%len(all)]
			if x == 0 && y == 0 {
				continue
			}
			got, e := fix.Arg(x, y)
			same(t, fmt.Sprintf("Arg(%d, %d)", x, y), got, e, argument(x, y), api.OK)
			if exact := math.Atan2(float64(y), float64(x)) * 180 / math.Pi * d; math.Abs(float64(got)-exact) > 2 {
				t.Errorf("Arg(%d, %d) is %d, which is far from %f", x, y, got, exact)
			}
		}
	}
}

// P2.4: Arg, by hand.
func TestArgByHand(t *testing.T) {
	for _, c := range []struct {
		x, y, want int
		e          api.Errno
	}{
		{1, 1, 45 * d, api.OK}, {-5, 0, 180 * d, api.OK}, {0, -2, -90 * d, api.OK}, {0, 5, 90 * d, api.OK}, {7, 0, 0, api.OK},
		{-1, 1, 135 * d, api.OK}, {-1, -1, -135 * d, api.OK}, {7, -7, -45 * d, api.OK}, {most, most, 45 * d, api.OK}, {-most, -most, -135 * d, api.OK},
		{most, 0, 0, api.OK}, {0, most, 90 * d, api.OK}, {-most, 0, 180 * d, api.OK}, {0, -most, -90 * d, api.OK},
		{2, 1, 27855475, api.OK}, {1, 2, 66516365, api.OK}, {-1, 2, 122227315, api.OK}, {-2, 1, 160888205, api.OK},
		{-2, -1, -160888205, api.OK}, {-1, -2, -122227315, api.OK}, {1, -2, -66516365, api.OK}, {2, -1, -27855475, api.OK},
		{3, 4, 55710951, api.OK}, {100, 1, 600769, api.OK}, {65536, 113511, 62914404, api.OK}, {113512, 65536, 31457206, api.OK},
		{most, 1, 0, api.OK}, {1, most, 90 * d, api.OK}, {-most, 1, 180 * d, api.OK}, {-most, -1, -180 * d, api.OK}, {-1, -most, -90 * d, api.OK},
		{most, most - 1, 45*d - 1, api.OK}, {most - 1, most, 45*d + 1, api.OK}, {-most, 1 - most, -135*d - 1, api.OK},
		{0, 0, 0, api.ErrZero},
	} {
		got, e := fix.Arg(c.x, c.y)
		same(t, fmt.Sprintf("Arg(%d, %d)", c.x, c.y), got, e, c.want, c.e)
	}
}

// P2.4: the argument does not depend on the length.
func TestArgOfMultiples(t *testing.T) {
	for x := -9; x <= 9; x++ {
		for y := -9; y <= 9; y++ {
			want, wantErr := fix.Arg(x, y)
			for _, n := range []int{2, 65536, most / 9} {
				got, e := fix.Arg(n*x, n*y)
				same(t, fmt.Sprintf("Arg(%d, %d)", n*x, n*y), got, e, want, wantErr)
			}
		}
	}
}

// P2.3, P2.4: arguments that are not valid.
func TestNoAngle(t *testing.T) {
	for _, a := range noAngles {
		sin, cos, e := fix.Sine(a)
		same(t, fmt.Sprintf("Sine(%d)", a), vector{sin, cos}, e, vector{}, api.ErrArg)
		x, y, e := fix.Dir(a)
		same(t, fmt.Sprintf("Dir(%d)", a), vector{x, y}, e, vector{}, api.ErrArg)
		for _, v := range []vector{{0, 0}, {1, 0}, {most, most}, {most + 1, 0}} {
			x, y, e = fix.Turn(v.x, v.y, a)
			same(t, fmt.Sprintf("Turn(%d, %d, %d)", v.x, v.y, a), vector{x, y}, e, vector{}, api.ErrArg)
		}
	}
	for _, n := range noFixed {
		for _, m := range append([]int{0, 1, -most}, noFixed...) {
			for _, v := range []vector{{n, m}, {m, n}} {
				got, e := fix.Arg(v.x, v.y)
				same(t, fmt.Sprintf("Arg(%d, %d)", v.x, v.y), got, e, 0, api.ErrArg)
				for _, a := range []int{0, 90 * d, 45 * d} {
					x, y, e := fix.Turn(v.x, v.y, a)
					same(t, fmt.Sprintf("Turn(%d, %d, %d)", v.x, v.y, a), vector{x, y}, e, vector{}, api.ErrArg)
				}
			}
		}
	}
}

// P2.6: a multiple of 90 degrees, up to the greatest ones that are angles.
func TestQuarters(t *testing.T) {
	last := 1 << 40 / (90 * d)
	for n := -last; n <= last; n++ {
		want := []vector{{0, one}, {one, 0}, {0, -one}, {-one, 0}}[(n%4+4)%4]
		sin, cos, e := fix.Sine(90 * d * n)
		same(t, fmt.Sprintf("Sine of %d quarters", n), vector{sin, cos}, e, want, api.OK)
	}
}

// P2.6: a quarter more, and the negative angle.
func TestQuarterMore(t *testing.T) {
	for _, a := range angles() {
		sin, cos, e := fix.Sine(a)
		if e != api.OK {
			t.Fatalf("Sine(%d): %d", a, e)
		}
		if a+90*d <= 1<<40 {
			s, c, e := fix.Sine(a + 90*d)
			same(t, fmt.Sprintf("Sine of %d and a quarter", a), vector{s, c}, e, vector{cos, -sin}, api.OK)
		}
		s, c, e := fix.Sine(-a)
		// In the middle of a quarter alone it is of the same angle's cosine instead.
		if off := max(s+sin, -s-sin, c-cos, cos-c); e != api.OK || off > 2 || off > 0 && a%(90*d) != 45*d && a%(90*d) != -45*d {
			t.Errorf("Sine(%d) is %d, %d; Sine(%d) is %d, %d, %d", a, sin, cos, -a, s, c, e)
		}
	}
}

// P2.7: the sum of the squares of sine and cosine.
func TestCircle(t *testing.T) {
	check := func(a int) {
		sin, cos, e := fix.Sine(a)
		if off := sin*sin + cos*cos - 1<<56; e != api.OK || off <= -1<<33 || off >= 1<<33 {
			t.Errorf("Sine(%d) is %d, %d, %d: the squares are %d off", a, sin, cos, e, off)
		}
	}
	for a := -360 * d; a <= 360*d; a += 9973 {
		check(a)
	}
	for _, a := range angles() {
		check(a)
	}
}

// P2.10: Turn by quarters.
func TestTurnByQuarters(t *testing.T) {
	numbers := fixedNumbers()
	for i, x := range numbers {
		for j := range numbers {
			y := numbers[(i+j)%len(numbers)]
			for n, want := range map[int]vector{
				0: {x, y}, 1: {-y, x}, 2: {-x, -y}, 3: {y, -x}, 4: {x, y}, -1: {y, -x}, -2: {-x, -y}, -3: {-y, x}, -5: {y, -x}, 11649: {-y, x}, -11650: {-x, -y},
			} {
				p, q, e := fix.Turn(x, y, 90*d*n)
				same(t, fmt.Sprintf("Turn of (%d, %d) by %d quarters", x, y, n), vector{p, q}, e, want, api.OK)
			}
		}
	}
}
