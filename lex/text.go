package lex

import (
	"strconv"
	"strings"

	"fleuron/api"
)

// Integer parts of numbers in decimals are less than wholes, and what is behind their points is in parts.
const (
	wholes = 1_000_000_000
	parts  = 100_000
)

// Text returns a string with these tokens.
func Text(l []api.Token) (string, api.Errno) {
	for _, t := range l {
		if !Valid(t) {
			return "", api.ErrArg
		}
	}
	var text strings.Builder
	for i, t := range l {
		if i > 0 {
			text.WriteByte(' ')
		}
		text.WriteString(spelled(t))
		if text.Len() > api.MaxText {
			return "", api.ErrLimit
		}
	}
	return text.String(), api.OK
}

// spelled returns a valid token as it stands in a string.
func spelled(t api.Token) string {
	switch t.Kind {
	case api.TokNum:
		return decimals(t.Num)
	case api.TokText:
		return `"` + t.Text + `"`
	}
	return t.Text
}

// decimals returns the string of a number in decimals.
func decimals(a api.Num) string {
	text := strconv.FormatInt(a.P/a.Q, 10)
	if rest := a.P % a.Q; rest != 0 {
		// With parts in front the zeros stay with which the digits begin.
		digits := strconv.FormatInt(parts+rest*(parts/a.Q), 10)[1:]
		text += "." + strings.TrimRight(digits, "0")
	}
	return text
}
