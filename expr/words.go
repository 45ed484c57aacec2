package expr

// isConstant reports whether a word is an operation without an operand.
func isConstant(s string) bool {
	switch s {
	case "true", "false", "identity", "pencircle", "pensquare":
		return true
	}
	return false
}

// isUnary reports whether a word or a sign is an operation of one operand.
func isUnary(s string) bool {
	switch s {
	case "+", "-", "not", "known", "unknown", "odd", "floor", "abs", "sqrt", "sind", "cosd", "angle", "dir", "length",
		"xpart", "ypart", "xxpart", "xypart", "yxpart", "yypart", "inverse", "decimal", "char", "code", "reverse":
		return true
	}
	return false
}

// isOf reports whether a word is an operation whose two operands have of between them.
func isOf(s string) bool {
	switch s {
	case "point", "direction", "subpath", "precontrol", "postcontrol":
		return true
	}
	return false
}

// isProduct reports whether a word or a sign is an operation that binds as a product does.
func isProduct(s string) bool {
	switch s {
	case "*", "/", "**", "and", "mod", "dotprod", "scaled", "xscaled", "yscaled", "shifted", "rotated", "slanted", "transformed":
		return true
	}
	return false
}

// isSum reports whether a word or a sign is an operation that binds as a sum does.
func isSum(s string) bool {
	switch s {
	case "+", "-", "++", "+-+", "or":
		return true
	}
	return false
}

// isComparison reports whether a sign stands, outside of conditions, between the parts of an expression.
func isComparison(s string) bool {
	switch s {
	case "<", "<=", ">", ">=", "<>", "&":
		return true
	}
	return false
}

// isComparisonOrEqual reports whether a sign stands in a condition between its parts.
func isComparisonOrEqual(s string) bool { return s == "=" || isComparison(s) }

// isJoin reports whether a join begins with a sign.
func isJoin(s string) bool { return s == ".." || s == "--" || s == "{" }
