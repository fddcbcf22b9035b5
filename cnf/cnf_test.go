package cnf_test

import (
	"math"
	"slices"
	"testing"

	"chandler/api"
	"chandler/cnf"
)

// of: a formula with these clauses.
func of(n int, clauses ...[]int) cnf.Formula { return cnf.Formula{N: n, Clauses: clauses} }

// c: a clause.
func c(lits ...int) []int { return lits }

func TestVar(t *testing.T) {
	for _, v := range []int{1, 2, 7, 399, 400, 401, math.MaxInt} {
		if cnf.Var(v) != v || cnf.Var(-v) != v {
			t.Error(v, cnf.Var(v), cnf.Var(-v))
		}
	}
}

func TestCheckClause(t *testing.T) {
	for _, x := range []struct {
		c    []int
		n    int
		want api.Errno
	}{
		{nil, 0, api.OK},
		{c(), 3, api.OK},
		{nil, -1, api.OK},
		{nil, math.MinInt, api.OK},
		{c(1, -2, 3), 3, api.OK},
		{c(3, -3, 3, 3), 3, api.OK},
		{c(400, -400), 400, api.OK},
		{c(4000), 4000, api.OK},
		{c(math.MaxInt, -math.MaxInt), math.MaxInt, api.OK},
		{c(0), 3, api.Range},
		{c(0), 0, api.Range},
		{c(1, 0), 3, api.Range},
		{c(4), 3, api.Range},
		{c(-4), 3, api.Range},
		{c(1, 2, 3, 4), 3, api.Range},
		{c(-4, 1), 3, api.Range},
		{c(1), 0, api.Range},
		{c(-1), 0, api.Range},
		{c(1), -1, api.Range},
		{c(-1), -1, api.Range},
		{c(1), -5, api.Range},
		{c(-1), -5, api.Range},
		{c(0), -5, api.Range},
		{c(5), -5, api.Range},
		{c(1), math.MinInt, api.Range},
		{c(math.MinInt), math.MinInt, api.Range},
		{c(math.MinInt), math.MaxInt, api.Range},
		{c(math.MinInt), 400, api.Range},
		{c(math.MaxInt), 400, api.Range},
	} {
		if got := cnf.CheckClause(x.c, x.n); got != x.want {
			t.Error(x.c, x.n, got)
		}
	}
}

// many: so many clauses, each like that.
func many(n int, like []int) [][]int { return slices.Repeat([][]int{like}, n) }

func TestCheck(t *testing.T) {
	for _, x := range []struct {
		f    cnf.Formula
		want api.Errno
	}{
		{of(0), api.OK},
		{of(1), api.OK},
		{of(0, nil), api.OK},
		{of(0, c(), nil), api.OK},
		{of(3, c(1, -2), c(), c(3, 3), c(-1, 1)), api.OK},
		{of(api.MaxVars), api.OK},
		{of(api.MaxVars, c(api.MaxVars, -api.MaxVars)), api.OK},
		{of(1, many(api.MaxClauses, c(1))...), api.OK},
		{of(api.MaxVars, many(api.MaxClauses, nil)...), api.OK},
		{of(-1), api.Range},
		{of(math.MinInt), api.Range},
		{of(api.MaxVars + 1), api.Range},
		{of(math.MaxInt), api.Range},
		{of(-1, nil), api.Range},
		{of(api.MaxVars+1, c(1)), api.Range},
		{of(1, many(api.MaxClauses+1, c(1))...), api.Bound},
		{of(0, many(api.MaxClauses+1, nil)...), api.Bound},
		{of(0, c(1)), api.Range},
		{of(0, c(0)), api.Range},
		{of(2, c(1), c(2, 0)), api.Range},
		{of(2, c(1), c(-3), c(2)), api.Range},
		{of(2, c(3), c(2)), api.Range},
		{of(api.MaxVars, nil, c(-api.MaxVars-1)), api.Range},
		// Of two flaws the first in order.
		{of(-1, many(api.MaxClauses+1, nil)...), api.Range},
		{of(api.MaxVars+1, many(api.MaxClauses+1, nil)...), api.Range},
		{of(2, many(api.MaxClauses+1, c(0))...), api.Bound},
		{of(2, append([][]int{c(3)}, many(api.MaxClauses, c(1))...)...), api.Bound},
	} {
		if got := x.f.Check(); got != x.want {
			t.Error(x.f.N, len(x.f.Clauses), got, x.want)
		}
	}
}

func TestNorm(t *testing.T) {
	for _, x := range []struct{ c, want []int }{
		{nil, nil},
		{c(), nil},
		{c(1), c(1)},
		{c(-1), c(-1)},
		{c(2, 1), c(1, 2)},
		{c(1, -1), c(-1, 1)},
		{c(-1, 1), c(-1, 1)},
		{c(2, -1), c(-1, 2)},
		{c(-2, 1), c(1, -2)},
		{c(-2, -1), c(-1, -2)},
		{c(3, 3, 3), c(3)},
		{c(3, -2, 3, 2, -2, 1), c(1, -2, 2, 3)},
		{c(10, -9, 9, -10, 8), c(8, -9, 9, -10, 10)},
		{c(math.MaxInt, 1, -math.MaxInt), c(1, -math.MaxInt, math.MaxInt)},
	} {
		if got := cnf.Norm(x.c); !slices.Equal(got, x.want) {
			t.Error(x.c, got)
		}
	}
}

func TestTaut(t *testing.T) {
	for _, x := range []struct {
		c    []int
		want bool
	}{
		{nil, false},
		{c(1), false},
		{c(-1), false},
		{c(1, 1), false},
		{c(-1, -1), false},
		{c(1, 2, 3), false},
		{c(1, -2, 3), false},
		{c(2, -1, 2), false},
		{c(1, -1), true},
		{c(-1, 1), true},
		{c(1, 2, -1), true},
		{c(-3, 2, 1, 3), true},
		{c(1, 2, -3, -4, 4), true},
		{c(4, 1, 4, 2, 4, -4), true},
		{c(math.MaxInt, -math.MaxInt), true},
	} {
		if got := cnf.Taut(x.c); got != x.want {
			t.Error(x.c, got)
		}
	}
}

func TestResolve(t *testing.T) {
	for _, x := range []struct {
		a, b []int
		v    int
		want []int
		code api.Errno
	}{
		{c(1, 2), c(-1, 3), 1, c(2, 3), api.OK},
		{c(1), c(-1), 1, nil, api.OK},
		{c(1, 1), c(-1, -1), 1, nil, api.OK},
		{c(2, 1), c(2, -1), 1, c(2), api.OK},
		{c(3, -2, 1), c(-1, 4, -2), 1, c(-2, 3, 4), api.OK},
		{c(3, -2, 1), c(2, -5), 2, nil, api.Wrong},
		{c(2, -5), c(3, -2, 1), 2, c(1, 3, -5), api.OK},
		{c(400, 5), c(-400), 400, c(5), api.OK},
		{c(math.MaxInt), c(-math.MaxInt, 7), math.MaxInt, c(7), api.OK},
		// A clause that has the variable and its contrary keeps the other one of them.
		{c(1, -1, 2), c(-1), 1, c(-1, 2), api.OK},
		{c(1, 2), c(-1, 1), 1, c(1, 2), api.OK},
		{c(1, -1), c(-1, 1), 1, nil, api.Wrong},
		// What would be of no worth.
		{c(1, 2), c(-1, -2), 1, nil, api.Wrong},
		{c(1, 2), c(-1, -2), 2, nil, api.Wrong},
		{c(1, 2, -2), c(-1), 1, nil, api.Wrong},
		{c(1), c(3, -1, -3), 1, nil, api.Wrong},
		// What lacks the variable, or its contrary.
		{nil, nil, 1, nil, api.Wrong},
		{c(1), nil, 1, nil, api.Wrong},
		{nil, c(-1), 1, nil, api.Wrong},
		{c(2), c(-1), 1, nil, api.Wrong},
		{c(1), c(2), 1, nil, api.Wrong},
		{c(-1, 2), c(1, 3), 1, nil, api.Wrong},
		{c(1, 2), c(1, 3), 1, nil, api.Wrong},
		{c(-1, 2), c(-1, 3), 1, nil, api.Wrong},
		{c(1, 2), c(-1, 3), 2, nil, api.Wrong},
		{c(1, 2), c(-1, 3), 4, nil, api.Wrong},
		// A variable is 1 or above, whatever the clauses have.
		{c(1, 2), c(-1, 3), 0, nil, api.Wrong},
		{c(1, 2), c(-1, 3), -1, nil, api.Wrong},
		{c(-1, 2), c(1, 3), -1, nil, api.Wrong},
		{c(-1), c(1), -1, nil, api.Wrong},
		{c(0), c(0), 0, nil, api.Wrong},
		{c(math.MinInt), c(math.MinInt), math.MinInt, nil, api.Wrong},
	} {
		got, code := cnf.Resolve(x.a, x.b, x.v)
		if code != x.code || !slices.Equal(got, x.want) {
			t.Error(x.a, x.b, x.v, got, code)
		}
	}
}

func TestSubsumes(t *testing.T) {
	for _, x := range []struct {
		a, b []int
		want bool
	}{
		{nil, nil, true},
		{nil, c(1), true},
		{c(), c(1, 2), true},
		{c(1), nil, false},
		{c(1), c(), false},
		{c(1), c(1), true},
		{c(1), c(-1), false},
		{c(1), c(2, 1), true},
		{c(2, 1), c(1), false},
		{c(1, 2), c(2, 1), true},
		{c(1, 1, 1), c(1), true},
		{c(1, 1), c(2, 1), true},
		{c(1, -2), c(-2, 3, 1), true},
		{c(1, 2), c(-2, 3, 1), false},
		{c(3, 2), c(3), false},
		{c(1, -1), c(-1, 1), true},
		{c(1, -1), c(1), false},
	} {
		if got := cnf.Subsumes(x.a, x.b); got != x.want {
			t.Error(x.a, x.b, got)
		}
	}
}

func TestTrue(t *testing.T) {
	for _, x := range []struct {
		lit   int
		model []bool
		want  bool
	}{
		{1, []bool{true}, true},
		{-1, []bool{true}, false},
		{1, []bool{false}, false},
		{-1, []bool{false}, true},
		{2, []bool{false, true, false}, true},
		{-2, []bool{false, true, false}, false},
		{3, []bool{true, true, false}, false},
		{-3, []bool{true, true, false}, true},
		{3, []bool{false, false, true}, true},
		// Beyond the model all are false.
		{1, nil, false},
		{-1, nil, true},
		{2, []bool{true}, false},
		{-2, []bool{true}, true},
		{math.MaxInt, []bool{true, true}, false},
		{-math.MaxInt, []bool{true, true}, true},
	} {
		if got := cnf.True(x.lit, x.model); got != x.want {
			t.Error(x.lit, x.model, got)
		}
	}
}

func TestHolds(t *testing.T) {
	for _, x := range []struct {
		f     cnf.Formula
		model []bool
		want  bool
	}{
		{of(0), nil, true},
		{of(3), nil, true},
		{of(0), []bool{true, false}, true},
		{of(0, nil), nil, false},
		{of(1, c(1), nil), []bool{true}, false},
		{of(1, c(1)), []bool{true}, true},
		{of(1, c(1)), []bool{false}, false},
		{of(1, c(-1)), []bool{false}, true},
		{of(1, c(1, -1)), []bool{false}, true},
		{of(1, c(1), c(-1)), []bool{true}, false},
		{of(3, c(1, 2), c(-1, 3)), []bool{true, false, true}, true},
		{of(3, c(1, 2), c(-1, 3)), []bool{true, true, false}, false},
		{of(3, c(1, 2), c(-1, 3)), []bool{false, false, true}, false},
		{of(3, c(-1, 3), c(1, 2)), []bool{false, true, false}, true},
		{of(2, c(1, 1), c(2, 2)), []bool{true, true}, true},
		// A model that is shorter than N, and one that is longer.
		{of(2, c(1), c(-2)), []bool{true}, true},
		{of(2, c(1), c(2)), []bool{true}, false},
		{of(2, c(-1), c(-2)), nil, true},
		{of(2, c(1), c(2)), nil, false},
		{of(1, c(1)), []bool{true, true, false}, true},
		{of(1, c(-1)), []bool{true, true, false}, false},
		// What may not be a formula is asked by its clauses alone.
		{of(-1, c(1)), []bool{true}, true},
		{of(0, c(2)), []bool{true, true}, true},
		{of(0, c(2)), []bool{true, false}, false},
	} {
		if got := x.f.Holds(x.model); got != x.want {
			t.Error(x.f, x.model, got)
		}
	}
}

func TestSpread(t *testing.T) {
	for _, x := range []struct {
		f          cnf.Formula
		lits, want []int
		clash      bool
	}{
		{of(2, c(1), c(-1, 2)), nil, c(1, 2), false},
		{of(0), nil, nil, false},
		{of(3), nil, nil, false},
		{of(3), c(3, -1, 3), c(-1, 3), false},
		{of(2, c(1, 2)), nil, nil, false},
		{of(2, c(1, 2)), c(1), c(1), false},
		{of(2, c(1, 2)), c(-1), c(-1, 2), false},
		{of(2, c(1, 2)), c(-2), c(1, -2), false},
		{of(2, c(1, 2)), c(-2, -1), nil, true},
		{of(2, c(1, 2)), c(-2, 1), c(1, -2), false},
		{of(3, c(1, 2, 3)), c(-2), c(-2), false},
		{of(3, c(1, 2, 3)), c(-2, -3), c(1, -2, -3), false},
		{of(3, c(-1, -2, -3)), c(3, 2), c(-1, 2, 3), false},
		// One behind the other, in the clauses' order, against it, and crosswise.
		{of(5, c(1), c(-1, 2), c(-2, 3), c(-3, 4), c(-4, 5)), nil, c(1, 2, 3, 4, 5), false},
		{of(5, c(-4, 5), c(-3, 4), c(-2, 3), c(-1, 2), c(1)), nil, c(1, 2, 3, 4, 5), false},
		{of(5, c(-4, -5), c(-2, 3), c(1), c(-3, 4), c(-1, 2)), nil, c(1, 2, 3, 4, -5), false},
		{of(5, c(-4, 5), c(-3, 4), c(-2, 3), c(-1, 2)), c(3), c(3, 4, 5), false},
		{of(5, c(-4, 5), c(-3, 4), c(-2, 3), c(-1, 2)), c(-3), c(-1, -2, -3), false},
		{of(4, c(-1, -2, 3), c(-1, 2), c(-3, -2, 4)), c(1), c(1, 2, 3, 4), false},
		// It can't be.
		{of(0, nil), nil, nil, true},
		{of(2, c(1), nil), nil, nil, true},
		{of(1, c(1), c(-1)), nil, nil, true},
		{of(1, c(1)), c(-1), nil, true},
		{of(2, c(-1, 2), c(-1, -2)), c(1), nil, true},
		{of(4, c(-3, -4), c(-2, 4), c(-1, 3), c(-1, 2)), c(1), nil, true},
		{of(3, c(1, 2, 3)), c(-1, -2, -3), nil, true},
		{of(3), c(1, -1), nil, true},
		{of(3), c(-2, 1, 3, 2), nil, true},
		{of(3, c(1)), c(3, -3), nil, true},
		// A literal that stands in a clause twice is one; one with its contrary says nothing.
		{of(2, c(1, 1)), nil, c(1), false},
		{of(2, c(-2, 1, -2, 1)), c(2), c(1, 2), false},
		{of(2, c(1, 1)), c(-1), nil, true},
		{of(1, c(1, -1)), nil, nil, false},
		{of(1, c(1, -1)), c(1), c(1), false},
		{of(1, c(1, -1)), c(-1), c(-1), false},
		{of(2, c(1, -1, 2)), c(-2), c(-2), false},
		// What may not be: nothing, and not true, though there be a clash.
		{of(-1), nil, nil, false},
		{of(-1, nil), nil, nil, false},
		{of(api.MaxVars+1, nil), c(1), nil, false},
		{of(1, many(api.MaxClauses+1, nil)...), nil, nil, false},
		{of(2, c(1), c(3)), nil, nil, false},
		{of(2, c(1), c(-1), c(0)), nil, nil, false},
		{of(2, c(1)), c(0), nil, false},
		{of(2, c(1)), c(3), nil, false},
		{of(2, c(1)), c(-3), nil, false},
		{of(2, c(1), nil), c(1, -1, 3), nil, false},
		{of(2, c(1)), c(math.MinInt), nil, false},
		{of(2, c(1)), c(math.MaxInt, -math.MaxInt), nil, false},
		{of(0), c(1), nil, false},
	} {
		got, clash := x.f.Spread(x.lits)
		if clash != x.clash || !slices.Equal(got, x.want) {
			t.Error(x.f, x.lits, got, clash)
		}
	}
}

// TestSpreadFar: as many variables and clauses as there may be, each true behind the one that stands behind it.
func TestSpreadFar(t *testing.T) {
	n := api.MaxVars
	var clauses [][]int
	for v := n; v > 1; v-- {
		clauses = append(clauses, c(-(v-1), v))
	}
	for len(clauses) < api.MaxClauses-1 {
		clauses = append(clauses, c(n, -n))
	}
	f := of(n, append(clauses, c(1))...)
	got, clash := f.Spread(nil)
	if clash || len(got) != n || got[0] != 1 || got[n-1] != n {
		t.Error(got, clash)
	}
	if got, clash := f.Spread(c(-n)); got != nil || !clash {
		t.Error(got, clash)
	}
}

func TestPlain(t *testing.T) {
	for _, x := range []struct {
		f    cnf.Formula
		c    []int
		want bool
	}{
		{of(3, c(1, 2), c(-1, 3)), c(2, 3), true},
		{of(3, c(1, 2), c(-1, 3)), c(3, 2), true},
		{of(3, c(1, 2), c(-1, 3)), c(1, 2, 3), true},
		{of(3, c(1, 2), c(-1, 3)), c(1, 2), true},
		{of(3, c(1, 2), c(-1, 3)), c(2), false},
		{of(3, c(1, 2), c(-1, 3)), c(1, 3), false},
		{of(3, c(1, 2), c(-1, 3)), c(-2, -3), false},
		{of(3, c(1, 2), c(-1, 3)), nil, false},
		{of(2, c(1), c(-1, 2)), c(2), true},
		{of(2, c(1), c(-1, 2)), c(-2), false},
		{of(2, c(1), c(-1, 2)), c(-1), false},
		// Without a literal: where the formula says so by itself alone.
		{of(1, c(1), c(-1)), nil, true},
		{of(0, nil), nil, true},
		{of(0), nil, false},
		// A clause with contraries holds always.
		{of(3), c(1, -1), true},
		{of(3), c(2, 1, -2), true},
		{of(3), c(1, 1), false},
		// What follows, but isn't plain.
		{of(2, c(1, 2), c(1, -2), c(-1, 2), c(-1, -2)), nil, false},
		{of(3, c(1, 2), c(1, -2)), c(1), true},
		{of(4, c(3, 1, 2), c(3, 1, -2), c(3, -1, 2), c(3, -1, -2)), c(3), false},
		// What may not be.
		{of(-1, nil), nil, false},
		{of(2, nil, c(3)), nil, false},
		{of(2, nil), c(3), false},
		{of(2, nil), c(-3, 3), false},
		{of(2, nil), c(0), false},
		{of(2, nil), c(math.MinInt), false},
		{of(2, nil), c(math.MaxInt), false},
		{of(api.MaxVars+1, nil), nil, false},
		{of(1, many(api.MaxClauses+1, nil)...), nil, false},
	} {
		if got := x.f.Plain(x.c); got != x.want {
			t.Error(x.f, x.c, got)
		}
	}
}

// roomy: a clause with spare room, in which something stands.
func roomy(lits ...int) []int {
	l := append(slices.Clone(lits), 77, 78, 79)
	return l[:len(lits)]
}

// whole: a clause with its spare room.
func whole(c []int) []int { return slices.Clone(c[:len(c)+3]) }

// calls: all that is answered of these in lists.
func calls(a, b []int, f cnf.Formula) [][]int {
	r, _ := cnf.Resolve(a, b, 1)
	s, _ := f.Spread(c(a[0]))
	cnf.CheckClause(a, 3)
	cnf.Subsumes(a, b)
	cnf.Taut(a)
	f.Check()
	f.Plain(a)
	f.Holds([]bool{true})
	return [][]int{cnf.Norm(a), cnf.Norm(b), r, s}
}

// TestNothingChanged: what is handed in is as it was, its spare room too, and shares nothing with what is answered.
func TestNothingChanged(t *testing.T) {
	for _, x := range [][][]int{
		{roomy(3, 1, 2, 2), roomy(4, -1, 2)},
		{roomy(1), roomy(-1)},
		{roomy(1, 1, 3), roomy(-1, -1, -2, 3)},
		{roomy(1, 2, 3), roomy(-1, 2, 3)},
		{roomy(4, 3, 2, 1), roomy(-1, 4)},
	} {
		a, b := x[0], x[1]
		clauses := append(make([][]int, 0, 5), a, b, c(-1, 3), c(-3, 2))
		f := of(4, clauses...)
		keepA, keepB := whole(a), whole(b)
		for _, l := range calls(a, b, f) {
			for i := range l[:cap(l)] {
				l[:cap(l)][i] = 55
			}
		}
		if !slices.Equal(whole(a), keepA) || !slices.Equal(whole(b), keepB) {
			t.Error("changed", keepA, keepB, whole(a), whole(b))
		}
		if len(f.Clauses) != 4 || clauses[:5][4] != nil || !slices.Equal(clauses[2], c(-1, 3)) || !slices.Equal(clauses[3], c(-3, 2)) {
			t.Error("a formula changed", clauses)
		}
	}
}

// TestSpreadAnew: what is answered once isn't what is answered again.
func TestSpreadAnew(t *testing.T) {
	f, lits := of(3, c(-1, 2)), roomy(1)
	first, _ := f.Spread(lits)
	first[0] = 9
	if again, clash := f.Spread(lits); clash || !slices.Equal(again, c(1, 2)) || lits[0] != 1 {
		t.Error(again, clash, lits)
	}
}
