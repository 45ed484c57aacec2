package num

import (
	"strconv"
	"strings"

	"fleuron/api"
)

// How many digits decimals have at most in front of the point, and behind it.
const (
	maxWhole = 9
	maxPart  = 5
)

// Text returns a number's string.
func Text(a api.Num) (string, api.Errno) {
	if !Valid(a) {
		return "", api.ErrArg
	}
	text := strconv.FormatInt(a.P, 10)
	if a.Q != 1 {
		text += "/" + strconv.FormatInt(a.Q, 10)
	}
	return text, api.OK
}

// Parse returns the number with a string.
func Parse(s string) (api.Num, api.Errno) {
	top, bottom, divided := strings.Cut(s, "/")
	if !divided {
		bottom = "1"
	}
	p, errTop := strconv.ParseInt(top, 10, 64)
	q, errBottom := strconv.ParseInt(bottom, 10, 64)
	if errTop != nil || errBottom != nil {
		return api.Num{}, api.ErrForm
	}
	// A number has one Text: other ways to write it (zeros in front, a part that is not reduced) differ from it.
	a := api.Num{P: p, Q: q}
	if text, e := Text(a); e != api.OK || text != s {
		return api.Num{}, api.ErrForm
	}
	return a, api.OK
}

// Decimal returns the number that a string in decimals is.
func Decimal(s string) (api.Num, api.Errno) {
	whole, part, pointed := strings.Cut(s, ".")
	if len(whole) > maxWhole || len(part) > maxPart || !digits(whole) || !digits(part) {
		return api.Num{}, api.ErrForm
	}
	if pointed && part == "" || !pointed && whole == "" {
		return api.Num{}, api.ErrForm
	}
	p, q := int64(0), int64(1)
	for _, c := range []byte(whole + part) {
		p = 10*p + int64(c-'0')
	}
	for range len(part) {
		q *= 10
	}
	return Make(p, q)
}

// digits reports whether a string has only decimal digits.
func digits(s string) bool {
	for _, c := range []byte(s) {
		if c < '0' || c > '9' {
			return false
		}
	}
	return true
}
