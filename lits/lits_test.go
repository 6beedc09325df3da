package lits_test

import (
	"math"
	"testing"

	"spiritlevel/api"
	"spiritlevel/lits"
)

// Written as numbers: the limits must not move with the constants of the program.
const (
	lastVar = 1000
	lastLit = 2001
)

var (
	noLits = []int{-1, -2, -2001, 2002, 2003, 4000, math.MinInt32, math.MaxInt32, math.MinInt, math.MinInt + 1, math.MaxInt - 1, math.MaxInt}
	noVars = []int{-1, -2, -1000, 1001, 2001, math.MinInt32, math.MaxInt32, math.MinInt, math.MinInt + 1, math.MinInt / 2, math.MaxInt / 2, math.MaxInt - 1, math.MaxInt}
)

// P1.1

func TestNegExamples(t *testing.T) {
	for _, x := range [][2]int{{6, 7}, {7, 6}, {0, 1}, {1, 0}, {2, 3}, {2000, 2001}, {2001, 2000}} {
		if n, e := lits.Neg(x[0]); n != x[1] || e != api.OK {
			t.Errorf("Neg(%d) = %d, %d; want %d", x[0], n, e, x[1])
		}
	}
}

func TestVarAndLitExamples(t *testing.T) {
	for _, x := range []struct {
		lit, v int
		neg    bool
	}{{0, 0, false}, {1, 0, true}, {2, 1, false}, {6, 3, false}, {7, 3, true}, {2000, 1000, false}, {2001, 1000, true}} {
		if v, neg, e := lits.Var(x.lit); v != x.v || neg != x.neg || e != api.OK {
			t.Errorf("Var(%d) = %d, %t, %d; want %d, %t", x.lit, v, neg, e, x.v, x.neg)
		}
		if l, e := lits.Lit(x.v, x.neg); l != x.lit || e != api.OK {
			t.Errorf("Lit(%d, %t) = %d, %d; want %d", x.v, x.neg, l, e, x.lit)
		}
	}
}

func TestNegVarLitOfAll(t *testing.T) {
	for v := range lastVar + 1 {
		for _, neg := range []bool{false, true} {
			want := 2 * v
			if neg {
				want++
			}
			l, e := lits.Lit(v, neg)
			if l != want || e != api.OK {
				t.Fatalf("Lit(%d, %t) = %d, %d; want %d", v, neg, l, e, want)
			}
			w, wneg, e := lits.Var(l)
			if w != v || wneg != neg || e != api.OK {
				t.Fatalf("Var(%d) = %d, %t, %d; want %d, %t", l, w, wneg, e, v, neg)
			}
			other, _ := lits.Lit(v, !neg)
			if n, e := lits.Neg(l); n != other || e != api.OK {
				t.Fatalf("Neg(%d) = %d, %d; want %d", l, n, e, other)
			}
		}
	}
}

// P1.2

func TestAndExamples(t *testing.T) {
	for _, x := range []struct {
		a, b, l int
		simple  bool
	}{
		{6, 1, 6, true}, {6, 7, 0, true}, {6, 8, 0, false},
		{0, 0, 0, true}, {0, 1, 0, true}, {1, 1, 1, true},
		{6, 0, 0, true}, {7, 1, 7, true}, {7, 7, 7, true}, {7, 8, 0, false}, {3, 5, 0, false},
		// Neighbours that are no negations of each other, and literals next to the constants.
		{7, 9, 0, false}, {5, 6, 0, false}, {1, 2, 2, true}, {1, 3, 3, true}, {2, 3, 0, true},
		{2001, 2001, 2001, true}, {2001, 2000, 0, true}, {2001, 1, 2001, true}, {2001, 0, 0, true}, {2001, 1999, 0, false}, {2001, 2, 0, false},
	} {
		for _, p := range [][2]int{{x.a, x.b}, {x.b, x.a}} {
			if l, simple, e := lits.And(p[0], p[1]); l != x.l || simple != x.simple || e != api.OK {
				t.Errorf("And(%d, %d) = %d, %t, %d; want %d, %t", p[0], p[1], l, simple, e, x.l, x.simple)
			}
		}
	}
}

// Two literals tell their AND just if one is constant, or both have one variable.
func TestAndIsSimpleWhereItIsToldByBoth(t *testing.T) {
	for a := range lastLit + 1 {
		for b := range lastLit + 1 {
			l, simple, e := lits.And(a, b)
			if e != api.OK {
				t.Fatalf("And(%d, %d): error %d", a, b, e)
			}
			if want := a < 2 || b < 2 || a/2 == b/2; simple != want {
				t.Fatalf("And(%d, %d) is simple: %t; want %t", a, b, simple, want)
			}
			if !simple && l != 0 {
				t.Fatalf("And(%d, %d) = %d and is not simple; want 0", a, b, l)
			}
		}
	}
}

// P1.3

func TestValueExamples(t *testing.T) {
	for _, x := range []struct {
		l       int
		v, want bool
	}{
		{6, true, true}, {6, false, false}, {7, true, false}, {7, false, true},
		{0, false, false}, {0, true, false}, {1, false, true}, {1, true, true},
		{2, true, true}, {2, false, false}, {3, true, false}, {3, false, true},
		{2000, true, true}, {2000, false, false}, {2001, true, false}, {2001, false, true},
	} {
		if got, e := lits.Value(x.l, x.v); got != x.want || e != api.OK {
			t.Errorf("Value(%d, %t) = %t, %d; want %t", x.l, x.v, got, e, x.want)
		}
	}
}

func TestValueOfAll(t *testing.T) {
	for v := 1; v <= lastVar; v++ {
		for _, value := range []bool{false, true} {
			if got, e := lits.Value(2*v, value); got != value || e != api.OK {
				t.Fatalf("Value(%d, %t) = %t, %d", 2*v, value, got, e)
			}
			if got, e := lits.Value(2*v+1, value); got == value || e != api.OK {
				t.Fatalf("Value(%d, %t) = %t, %d", 2*v+1, value, got, e)
			}
		}
	}
}

// P1.4

func TestNegTwiceIsNothing(t *testing.T) {
	for l := range lastLit + 1 {
		n, _ := lits.Neg(l)
		if back, e := lits.Neg(n); back != l || n == l || e != api.OK {
			t.Fatalf("Neg(%d) = %d, and Neg of it %d, %d", l, n, back, e)
		}
	}
}

func TestNegChangesTheValue(t *testing.T) {
	for l := range lastLit + 1 {
		n, _ := lits.Neg(l)
		for _, v := range []bool{false, true} {
			if value(t, l, v) == value(t, n, v) {
				t.Fatalf("%d and %d have one value if the variable is %t", l, n, v)
			}
		}
	}
}

func TestLiteralsAndSignedVariablesAreABijection(t *testing.T) {
	seen := map[int]bool{}
	for v := range lastVar + 1 {
		for _, neg := range []bool{false, true} {
			l, e := lits.Lit(v, neg)
			if e != api.OK || seen[l] {
				t.Fatalf("Lit(%d, %t) = %d, %d, which was there: %t", v, neg, l, e, seen[l])
			}
			seen[l] = true
		}
	}
	for l := range lastLit + 1 {
		v, neg, e := lits.Var(l)
		back, f := lits.Lit(v, neg)
		if !seen[l] || e != api.OK || f != api.OK || back != l {
			t.Fatalf("%d has the variable %d, %t, and this the literal %d (%d, %d)", l, v, neg, back, e, f)
		}
	}
	if len(seen) != lastLit+1 {
		t.Fatalf("%d literals; want %d", len(seen), lastLit+1)
	}
}

func TestSimpleAndHasTheValueOfBoth(t *testing.T) {
	signs := []bool{false, true}
	for a := range lastLit + 1 {
		for b := range lastLit + 1 {
			l, simple, _ := lits.And(a, b)
			if !simple {
				continue
			}
			if l/2 != 0 && l/2 != a/2 && l/2 != b/2 {
				t.Fatalf("And(%d, %d) = %d has another variable", a, b, l)
			}
			for _, va := range signs {
				for _, vb := range signs {
					if a/2 == b/2 && va != vb {
						continue
					}
					v := va
					if l/2 == b/2 {
						v = vb
					}
					if want := value(t, a, va) && value(t, b, vb); value(t, l, v) != want {
						t.Fatalf("And(%d, %d) = %d is %t under %t, %t; want %t", a, b, l, !want, va, vb, want)
					}
				}
			}
		}
	}
}

func TestAndDoesNotDependOnTheOrder(t *testing.T) {
	for a := range lastLit + 1 {
		for b := range a {
			l, simple, e := lits.And(a, b)
			m, other, f := lits.And(b, a)
			if l != m || simple != other || e != f {
				t.Fatalf("And(%d, %d) = %d, %t, %d; the other way round %d, %t, %d", a, b, l, simple, e, m, other, f)
			}
		}
	}
}

func TestAndRules(t *testing.T) {
	for l := range lastLit + 1 {
		n, _ := lits.Neg(l)
		for _, x := range [][2]int{{l, l}, {1, l}, {0, 0}, {n, 0}} {
			if got, simple, e := lits.And(l, x[0]); got != x[1] || !simple || e != api.OK {
				t.Fatalf("And(%d, %d) = %d, %t, %d; want %d", l, x[0], got, simple, e, x[1])
			}
		}
	}
}

// Errors

func TestNoLiterals(t *testing.T) {
	for _, l := range noLits {
		if n, e := lits.Neg(l); n != 0 || e != api.ErrArg {
			t.Errorf("Neg(%d) = %d, %d", l, n, e)
		}
		if v, neg, e := lits.Var(l); v != 0 || neg || e != api.ErrArg {
			t.Errorf("Var(%d) = %d, %t, %d", l, v, neg, e)
		}
		for _, v := range []bool{false, true} {
			if got, e := lits.Value(l, v); got || e != api.ErrArg {
				t.Errorf("Value(%d, %t) = %t, %d", l, v, got, e)
			}
		}
	}
}

func TestAndOfNoLiterals(t *testing.T) {
	others := append([]int{0, 1, 2, 7, 2000, 2001}, noLits...)
	for _, l := range noLits {
		for _, x := range others {
			for _, p := range [][2]int{{l, x}, {x, l}} {
				if got, simple, e := lits.And(p[0], p[1]); got != 0 || simple || e != api.ErrArg {
					t.Errorf("And(%d, %d) = %d, %t, %d", p[0], p[1], got, simple, e)
				}
			}
		}
	}
}

func TestNoVariables(t *testing.T) {
	for _, v := range noVars {
		for _, neg := range []bool{false, true} {
			if l, e := lits.Lit(v, neg); l != 0 || e != api.ErrArg {
				t.Errorf("Lit(%d, %t) = %d, %d", v, neg, l, e)
			}
		}
	}
}

func value(t *testing.T, l int, v bool) bool {
	t.Helper()
	got, e := lits.Value(l, v)
	if e != api.OK {
		t.Fatalf("Value(%d, %t): error %d", l, v, e)
	}
	return got
}
