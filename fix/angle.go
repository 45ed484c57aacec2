package fix

import "fleuron/api"

const (
	one      = 1 << 28 // 1 as a fraction
	right    = 90 * api.Degree
	maxAngle = 1 << 40
)

// Within a series numbers have more bits than fractions have: 1 is 2^30 there.
const (
	seriesBits = 30
	perAngle   = 76760392275 // what 1 in angles is in radians, times 2^62
)

// Sine returns the sine and the cosine of an angle, as fractions.
func Sine(a int) (sin, cos int, e api.Errno) {
	if !angle(a) {
		return 0, 0, api.ErrArg
	}
	sin, cos = circle(a)
	return sin, cos, api.OK
}

// angle reports whether a is an angle.
func angle(a int) bool { return a >= -maxAngle && a <= maxAngle }

// circle returns the sine and the cosine of an angle.
func circle(a int) (sin, cos int) {
	r := a % (4 * right)
	if r < 0 {
		r += 4 * right
	}
	sin, cos = quarter(r % right)
	for range r / right {
		sin, cos = cos, -sin
	}
	return sin, cos
}

// quarter returns the sine and the cosine of an angle from 0 to 90 degrees.
func quarter(r int) (sin, cos int) {
	if r > right/2 {
		cos, sin = quarter(right - r)
		return sin, cos
	}
	t := (perAngle*r + 1<<31) >> 32
	return series(t, 1, t), series(1<<seriesBits, 0, t)
}

// series returns what a series adds up to, as a fraction; its first term is u, that of the power n of t.
func series(u, n, t int) int {
	sum, sign := 0, 1
	for u != 0 {
		sum += sign * u
		u = u * t >> seriesBits
		u = u * t >> seriesBits
		u /= (n + 1) * (n + 2)
		n, sign = n+2, -sign
	}
	return (sum + 2) >> 2
}

// Dir returns the vector of length 1 with an angle.
func Dir(a int) (x, y int, e api.Errno) {
	if !angle(a) {
		return 0, 0, api.ErrArg
	}
	sin, cos := circle(a)
	return rounded(api.Unit*cos, one), rounded(api.Unit*sin, one), api.OK
}

// Turn returns a vector turned by an angle.
func Turn(x, y, a int) (int, int, api.Errno) {
	if !fixed(x, y) || !angle(a) {
		return 0, 0, api.ErrArg
	}
	sin, cos := circle(a)
	across, up := rounded(cos*x-sin*y, one), rounded(sin*x+cos*y, one)
	if !fixed(across, up) {
		return 0, 0, api.ErrRange
	}
	return across, up, api.OK
}

// Arg returns the angle of a vector.
func Arg(x, y int) (int, api.Errno) {
	if !fixed(x, y) {
		return 0, api.ErrArg
	}
	if x == 0 && y == 0 {
		return 0, api.ErrZero
	}
	across, up := max(x, -x), max(y, -y)
	a := shallow(max(across, up), min(across, up))
	if up > across {
		a = right - a
	}
	if x < 0 {
		a = 2*right - a
	}
	if y < 0 {
		a = -a
	}
	return a, api.OK
}

// shallow returns the angle of (x, y), for y from 0 to x, bit by bit.
func shallow(x, y int) int {
	if x == y {
		return right / 2
	}
	a := 0
	for k := range 26 {
		next := a + 1<<(25-k)
		if next > right/2 {
			continue
		}
		if sin, cos := quarter(next); sin*x <= cos*y {
			a = next
		}
	}
	return a
}
