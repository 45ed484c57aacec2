package lex

import "strings"

// run returns how many bytes from the front of a string on fit.
func run(s string, fits func(c byte) bool) int {
	for i := range len(s) {
		if !fits(s[i]) {
			return i
		}
	}
	return len(s)
}

// all reports whether all bytes of a string fit.
func all(s string, fits func(c byte) bool) bool { return run(s, fits) == len(s) }

// except returns what every byte fits but one.
func except(end byte) func(c byte) bool {
	return func(c byte) bool { return c != end }
}

// blank reports whether a byte is a blank.
func blank(c byte) bool { return c == ' ' || c == '\t' || c == '\n' || c == '\r' }

// letter reports whether a byte can stand in a name.
func letter(c byte) bool { return 'a' <= c && c <= 'z' || 'A' <= c && c <= 'Z' || c == '_' }

// digit reports whether a byte is a decimal digit.
func digit(c byte) bool { return '0' <= c && c <= '9' }

// quotable reports whether a byte can stand between quotation marks.
func quotable(c byte) bool { return ' ' <= c && c <= '~' && c != '"' }

// signAhead returns the longest sign with which a string begins, or nothing.
func signAhead(s string) string {
	for _, sign := range signs {
		if strings.HasPrefix(s, sign) {
			return sign
		}
	}
	return ""
}
