package tree

// IsConstant reports whether a word is an operation without an operand.
func IsConstant(s string) bool {
	switch s {
	case "true", "false", "identity", "pencircle", "pensquare":
		return true
	}
	return false
}

// IsUnary reports whether a word or a sign is an operation of one operand.
func IsUnary(s string) bool {
	switch s {
	case "+", "-", "not", "known", "unknown", "odd", "floor", "abs", "sqrt", "sind", "cosd", "angle", "dir", "length",
		"xpart", "ypart", "xxpart", "xypart", "yxpart", "yypart", "inverse", "decimal", "char", "code", "reverse":
		return true
	}
	return false
}

// IsOf reports whether a word is an operation whose two operands have of between them.
func IsOf(s string) bool {
	switch s {
	case "point", "direction", "subpath", "precontrol", "postcontrol":
		return true
	}
	return false
}

// IsProduct reports whether a word or a sign is an operation that binds as a product does.
func IsProduct(s string) bool {
	switch s {
	case "*", "/", "**", "and", "mod", "dotprod", "scaled", "xscaled", "yscaled", "shifted", "rotated", "slanted", "transformed":
		return true
	}
	return false
}

// IsSum reports whether a word or a sign is an operation that binds as a sum does.
func IsSum(s string) bool {
	switch s {
	case "+", "-", "++", "+-+", "or":
		return true
	}
	return false
}

// IsComparison reports whether a sign stands, outside of conditions, between the parts of an expression.
func IsComparison(s string) bool {
	switch s {
	case "<", "<=", ">", ">=", "<>", "&":
		return true
	}
	return false
}
