package assign_test

import (
	"math/rand"
	"slices"
	"testing"

	"spiritlevel/api"
	"spiritlevel/assign"
)

// P14.5: what the functions say agrees.

// furthered yields an assignment behind up to so many literals more, decided or implied in all ways.
func furthered(t *testing.T, a api.Assign, most int, yield func(api.Assign)) {
	yield(a)
	if most == 0 {
		return
	}
	for _, l := range literals(a.Vars) {
		if valueOf(t, a, l) == isNone {
			furthered(t, implied(t, a, l), most-1, yield)
			furthered(t, decided(t, a, l), most-1, yield)
		}
	}
}

// Behind a decision anything may be decided and implied: undone to the level before it is as it was before this decision.
func TestUndoneItIsAsItWas(t *testing.T) {
	for vars, most := range []int{0, 1, 2, 3, 2} {
		for _, a := range allAssigns(vars) {
			for _, l := range literals(vars) {
				if valueOf(t, a, l) != isNone {
					continue
				}
				furthered(t, decided(t, a, l), most-1, func(b api.Assign) {
					if c := undone(t, b, len(a.Starts)); !isSame(c, a) {
						t.Fatalf("%v, and then %v, undone to %d is %v", a, b, len(a.Starts), c)
					}
				})
			}
		}
	}
}

// What is implied before the next decision stays.
func TestUndoneItKeepsWhatWasImplied(t *testing.T) {
	for _, a := range allAssigns(3) {
		for _, l := range literals(3) {
			if valueOf(t, a, l) != isNone {
				continue
			}
			b := implied(t, a, l)
			if c := undone(t, b, len(a.Starts)); !isSame(c, b) {
				t.Fatalf("%v undone to its own level is %v", b, c)
			}
			for _, m := range literals(3) {
				if valueOf(t, b, m) != isNone {
					continue
				}
				if c := undone(t, decided(t, b, m), len(a.Starts)); !isSame(c, b) {
					t.Fatalf("%v, then decided %d, undone to %d is %v", b, m, len(a.Starts), c)
				}
			}
		}
	}
}

func TestUndoingTwiceIsUndoingToTheLowerLevel(t *testing.T) {
	for vars := range 5 {
		for _, a := range allAssigns(vars) {
			for high := range len(a.Starts) + 1 {
				b := undone(t, a, high)
				if e := assign.Check(b); e != api.OK || len(b.Starts) != high {
					t.Fatalf("%v undone to %d is %v, of which Check says %d", a, high, b, e)
				}
				for low := range high + 1 {
					if c, d := undone(t, b, low), undone(t, a, low); !isSame(c, d) {
						t.Fatalf("%v undone to %d and then to %d is %v; at once it is %v", a, high, low, c, d)
					}
				}
				if _, e := assign.Undo(b, high+1); e != api.ErrArg {
					t.Fatalf("Undo(%v, %d): error %d", b, high+1, e)
				}
			}
		}
	}
}

// What is undone is what has a greater level, and nothing else.
func TestUndoingTakesGreaterLevelsAway(t *testing.T) {
	for _, a := range allAssigns(4) {
		for level := range len(a.Starts) + 1 {
			b := undone(t, a, level)
			for _, l := range a.Trail {
				n := levelOf(t, a, l)
				if stays := slices.Contains(b.Trail, l); stays != (n <= level) {
					t.Fatalf("%v undone to %d is %v, and %d had the level %d", a, level, b, l, n)
				}
				if n <= level && levelOf(t, b, l) != n {
					t.Fatalf("%v undone to %d is %v, where %d has another level than %d", a, level, b, l, n)
				}
			}
		}
	}
}

func TestALiteralAndItsNegationAreNeverBothTrue(t *testing.T) {
	for vars := range 5 {
		for _, a := range allAssigns(vars) {
			for v := 1; v <= vars; v++ {
				b, c := valueOf(t, a, 2*v), valueOf(t, a, 2*v+1)
				if !(b == isTrue && c == isFalse || b == isFalse && c == isTrue || b == isNone && c == isNone) {
					t.Fatalf("under %v the literals of the variable %d are %d and %d", a, v, b, c)
				}
				if b == isNone {
					continue
				}
				if m, n := levelOf(t, a, 2*v), levelOf(t, a, 2*v+1); m != n {
					t.Fatalf("under %v the literals of the variable %d have the levels %d and %d", a, v, m, n)
				}
			}
		}
	}
}

// tellsLevels tests that levels begin with 0 or 1, never decrease along Trail, and that each decision has a level of its own.
func tellsLevels(t *testing.T, a api.Assign) {
	t.Helper()
	before := 0
	for i, l := range a.Trail {
		level := levelOf(t, a, l)
		want := before
		if slices.Contains(a.Starts, i) {
			want++
		}
		if level != want {
			t.Fatalf("the level of %d in %s is %d; want %d", l, short(a), level, want)
		}
		before = level
	}
	if before != len(a.Starts) {
		t.Fatalf("the last level of %s is %d", short(a), before)
	}
}

func TestLevelsNeverDecrease(t *testing.T) {
	for vars := range 5 {
		for _, a := range allAssigns(vars) {
			tellsLevels(t, a)
		}
	}
	rnd := rand.New(rand.NewSource(143))
	for range 30 {
		tellsLevels(t, drawnAssign(rnd, rnd.Intn(500), rnd.Intn(101), rnd.Intn(101)))
	}
	tellsLevels(t, drawnAssign(rnd, mostVars, 100, 50))
}

func TestImplyingChangesNoLevelAndDecidingMakesOneMore(t *testing.T) {
	for vars := range 5 {
		for _, a := range allAssigns(vars) {
			for _, l := range literals(vars) {
				if valueOf(t, a, l) != isNone {
					continue
				}
				for more, b := range []api.Assign{implied(t, a, l), decided(t, a, l)} {
					if e := assign.Check(b); e != api.OK {
						t.Fatalf("%v, then %d: error %d", a, l, e)
					}
					if len(b.Starts) != len(a.Starts)+more || levelOf(t, b, l) != len(a.Starts)+more || valueOf(t, b, l) != isTrue {
						t.Fatalf("%v, then %d: %v", a, l, b)
					}
					for _, m := range a.Trail {
						if levelOf(t, a, m) != levelOf(t, b, m) || valueOf(t, b, m) != isTrue {
							t.Fatalf("%v, then %d: %v, where %d has another level", a, l, b, m)
						}
					}
				}
			}
		}
	}
}

// Each assignment comes from the one without literals, by deciding and implying its literals in their order.
func TestAssignmentsAreMadeOfTheirLiterals(t *testing.T) {
	made := func(a api.Assign) api.Assign {
		b, e := assign.New(a.Vars)
		if e != api.OK {
			t.Fatalf("New(%d): error %d", a.Vars, e)
		}
		for i, l := range a.Trail {
			if slices.Contains(a.Starts, i) {
				b = decided(t, b, l)
			} else {
				b = implied(t, b, l)
			}
		}
		return b
	}
	for vars := range 5 {
		for _, a := range allAssigns(vars) {
			if b := made(a); !isSame(a, b) {
				t.Fatalf("the literals of %v make %v", a, b)
			}
		}
	}
	rnd := rand.New(rand.NewSource(144))
	for range 30 {
		a := drawnAssign(rnd, rnd.Intn(500), rnd.Intn(101), rnd.Intn(101))
		if b := made(a); !isSame(a, b) {
			t.Fatalf("the literals of %s make %s", short(a), short(b))
		}
	}
	a := drawnAssign(rnd, mostVars, 100, 50)
	if b := made(a); !isSame(a, b) || len(b.Trail) != mostVars {
		t.Fatalf("the literals of %s make %s", short(a), short(b))
	}
}

// Literals come and go; what was there at each level is kept beside, and is there again.
func TestDrawnWays(t *testing.T) {
	rnd := rand.New(rand.NewSource(145))
	undos, deepest := 0, 0
	for range 40 {
		vars := 1 + rnd.Intn(300)
		a, _ := assign.New(vars)
		// What is to be there when it is undone to each level; the last one is what is there now.
		kept := []api.Assign{a}
		for range 300 {
			l := 2 + rnd.Intn(2*vars)
			last := len(kept) - 1
			switch {
			case rnd.Intn(20) == 0:
				level := rnd.Intn(len(kept))
				undos += min(1, last-level)
				a, kept = undone(t, a, level), kept[:level+1]
			case valueOf(t, a, l) != isNone:
				withLiteral(t, a, l)
			case rnd.Intn(2) == 0:
				a = implied(t, a, l)
				kept[last] = a
			default:
				a = decided(t, a, l)
				kept = append(kept, a)
			}
			deepest = max(deepest, len(a.Starts))
			if want := kept[len(kept)-1]; !isSame(a, want) || assign.Check(a) != api.OK {
				t.Fatalf("it is %s; want %s", short(a), short(want))
			}
		}
		for level, want := range kept {
			if b := undone(t, a, level); !isSame(b, want) {
				t.Fatalf("undone to %d it is %s; want %s", level, short(b), short(want))
			}
		}
	}
	if undos < 200 || deepest < 15 {
		t.Errorf("it went back %d times, and there were up to %d levels", undos, deepest)
	}
}

// The order of literals within a level changes no value, and no level.
func TestTheOrderWithinALevelDoesNotMatter(t *testing.T) {
	rnd := rand.New(rand.NewSource(146))
	for _, a := range allAssigns(4) {
		levels := levelsOf(a)
		for _, level := range levels {
			rnd.Shuffle(len(level), func(i, j int) { level[i], level[j] = level[j], level[i] })
		}
		b := ofLevels(a.Vars, levels)
		for _, l := range literals(4) {
			if valueOf(t, a, l) != valueOf(t, b, l) {
				t.Fatalf("%d is not the same under %v and %v", l, a, b)
			}
			m, e := assign.Level(a, l)
			n, f := assign.Level(b, l)
			if m != n || e != f {
				t.Fatalf("the level of %d is %d, %d in %v, and %d, %d in %v", l, m, e, a, n, f, b)
			}
		}
	}
}

// More variables change nothing but what are literals.
func TestMoreVariablesChangeNothing(t *testing.T) {
	for _, a := range allAssigns(3) {
		for _, vars := range []int{3, 4, 10, 3999, 4000} {
			a.Vars = vars
			for _, l := range literals(4) {
				withLiteral(t, a, l)
			}
			for level := range len(a.Starts) + 2 {
				undoes(t, a, level)
			}
			if t.Failed() {
				return
			}
		}
	}
}
