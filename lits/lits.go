// Package lits is layer 1: see shared/doc/01-lits.md.
package lits

import "spiritlevel/api"

const (
	litFalse = 0
	litTrue  = 1
	maxLit   = 2*api.MaxVars + 1
)

// Neg returns the negation of a literal.
func Neg(l int) (int, api.Errno) {
	if !isLit(l) {
		return 0, api.ErrArg
	}
	return l ^ 1, api.OK
}

// Var returns the variable of a literal, and whether it is negated.
func Var(l int) (int, bool, api.Errno) {
	if !isLit(l) {
		return 0, false, api.ErrArg
	}
	return l / 2, isNegated(l), api.OK
}

// Lit returns the literal of a variable.
func Lit(v int, neg bool) (int, api.Errno) {
	if !isVar(v) {
		return 0, api.ErrArg
	}
	if neg {
		return 2*v + 1, api.OK
	}
	return 2 * v, api.OK
}

// And returns the literal that the AND of two literals is, if it is simple.
func And(a, b int) (l int, simple bool, e api.Errno) {
	if !isLit(a) || !isLit(b) {
		return 0, false, api.ErrArg
	}
	switch {
	case a == litFalse || b == litFalse || a == b^1:
		return litFalse, true, api.OK
	case a == litTrue || a == b:
		return b, true, api.OK
	case b == litTrue:
		return a, true, api.OK
	}
	return 0, false, api.OK
}

// Value returns the value of a literal whose variable has a value.
func Value(l int, v bool) (bool, api.Errno) {
	if !isLit(l) {
		return false, api.ErrArg
	}
	// The variable 0 is false, whatever value it is said to have.
	known := v && l/2 != 0
	return known != isNegated(l), api.OK
}

func isLit(l int) bool { return l >= 0 && l <= maxLit }

func isVar(v int) bool { return v >= 0 && v <= api.MaxVars }

// isNegated is asked of literals only: the remainder of a negative number would be wrong.
func isNegated(l int) bool { return l%2 == 1 }
