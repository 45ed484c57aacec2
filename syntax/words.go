package syntax

// isType reports whether a word is the type of a declaration.
func isType(s string) bool {
	switch s {
	case "numeric", "pair", "boolean", "string", "transform", "path", "pen":
		return true
	}
	return false
}

// isFill reports whether a statement that fills begins with a word.
func isFill(s string) bool { return s == "fill" || s == "evenfill" }

// isClip reports whether a statement that clips begins with a word.
func isClip(s string) bool { return s == "clip" || s == "evenclip" }

// isRule reports whether a word or a sign stands between the codes of a rule.
func isRule(s string) bool {
	switch s {
	case "kern", "=:", "|=:", "=:|", "|=:|":
		return true
	}
	return false
}
