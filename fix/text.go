package fix

import (
	"strconv"
	"strings"

	"fleuron/api"
)

// maxDigits is how many digits a string has at most in front of the point, and behind it.
const maxDigits = 9

// Parse returns the fixed number that a string is.
func Parse(s string) (int, api.Errno) {
	plain, below := strings.CutPrefix(s, "-")
	front, behind, pointed := strings.Cut(plain, ".")
	whole, wholeOK := natural(front)
	part, partOK := natural(behind)
	if !wholeOK || !partOK || pointed && behind == "" || !pointed && front == "" {
		return 0, api.ErrForm
	}
	power := 1
	for range len(behind) {
		power *= 10
	}
	n, e := bounded(api.Unit*whole + units(part, power))
	if below {
		n = -n
	}
	return n, e
}

// natural returns what decimal digits are; none are 0.
func natural(s string) (n int, ok bool) {
	if len(s) > maxDigits {
		return 0, false
	}
	for _, c := range []byte(s) {
		if c < '0' || c > '9' {
			return 0, false
		}
		n = 10*n + int(c-'0')
	}
	return n, true
}

// units returns digits behind a point, divided by their power of 10, as a fixed number.
func units(digits, power int) int { return rounded(api.Unit*digits, power) }

// Text returns a fixed number's string.
func Text(a int) (string, api.Errno) {
	if !fixed(a) {
		return "", api.ErrArg
	}
	sign := ""
	if a < 0 {
		sign, a = "-", -a
	}
	text := sign + strconv.Itoa(a/api.Unit)
	if rest := a % api.Unit; rest != 0 {
		text += "." + decimals(rest)
	}
	return text, api.OK
}

// decimals returns the digits behind the point of a rest from 1 up to Unit.
// It ends: strings with five digits are closer to each other than fixed numbers are.
func decimals(rest int) string {
	digits, power := 0, 1
	for units(digits, power) != rest {
		power *= 10
		// The nearest digits, of two the lesser ones. If any that are so many give the rest, these do.
		digits = (2*rest*power + api.Unit - 1) / (2 * api.Unit)
	}
	// The power in front keeps the zeros with which the digits begin.
	return strconv.Itoa(power + digits)[1:]
}
